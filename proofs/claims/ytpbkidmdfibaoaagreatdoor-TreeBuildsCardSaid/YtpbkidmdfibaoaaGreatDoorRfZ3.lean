/-
  Layer 3: what is built of a text, and the answer to the tokens of a text. Own work.
-/
import Derived.Test.YtpbkidmdfibaoaaGreatDoorPrtZ3
import Derived.Test.YtpbkidmdfibaoaaGreatDoorRd2b
import Derived.Deep.RegionHeld3
import Derived.Test.YtpbkidmdfibaoaaGreatDoorRd2c
import Derived.Test.YtpbkidmdfibaoaaGreatDoorRefRef
import Derived.Test.YtpbkidmdfibaoaaGreatDoorRd2e
import Derived.Test.YtpbkidmdfibaoaaGreatDoorOpen2
import Derived.Test.YtpbkidmdfibaoaaGreatDoorErr2
import Derived.Test.YtpbkidmdfibaoaaGreatDoorPiece2b
import Derived.Test.YtpbkidmdfibaoaaGreatDoorTok2
import Derived.Test.YtpbkidmdfibaoaaGreatDoorAll2b
import Derived.Test.YtpbkidmdfibaoaaGreatDoorRise2
namespace Go.Proofs.YtpbkidmdfibaoaaGreatDoor
set_option linter.unusedVariables false
set_option linter.unusedSimpArgs false


/-! Sty3 -/
section
open Go.RowKit


def Tm.ofTk (x : Tk) : Tm := ⟨x.k, x.n, x.ats, x.t, 0, 0, 0⟩
structure FrG (f : Tr) : Prop where
  n : isN f.n
  t : f.t = []
  a : atsB [] f.ats = true
  k : Tr.ksB false f.ks = true
theorem FrG.right {f : Tr} (h : FrG f) : f.rightB = true := by
  obtain ⟨n, ats, ks, t⟩ := f
  rw [Tr.rightB]
  have h1 : nmB n = true := by
    obtain ⟨g1, g2⟩ := h.n
    unfold nmB
    rw [show decide (n ≠ []) = true from decide_eq_true g1, show decide (nameL n = n.length) = true from decide_eq_true g2]
    rfl
  rw [h1, show decide (t = []) = true from decide_eq_true h.t, show atsB [] ats = true from h.a, show Tr.ksB false ks = true from h.k]
  rfl
theorem atsB_of : ∀ (l pre : List At2), (∀ p ∈ l, okA p) → (l.map (·.1)).Nodup → (∀ p ∈ l, ∀ q ∈ pre, q.1 ≠ p.1) → atsB pre l = true
  | [], _, _, _, _ => rfl
  | a :: l, pre, h1, h2, h3 => by
    rw [List.map_cons, List.nodup_cons] at h2
    have ha := h1 a (by simp)
    rw [atsB]
    have e1 : nmB a.1 = true := by
      obtain ⟨g1, g2⟩ := ha.1
      unfold nmB
      rw [decide_eq_true g1, decide_eq_true g2]; rfl
    have e2 : plB a.2 = true := List.all_eq_true.2 ha.2
    have e3 : (pre.any fun b => a.1 == b.1) = false := by
      rw [List.any_eq_false]
      intro q hq
      have := h3 a (by simp) q hq
      simp only [beq_iff_eq]
      exact fun e => this e.symm
    rw [e1, e2, e3, atsB_of l (pre ++ [a]) (fun p hp => h1 p (by simp [hp])) h2.2 fun p hp q hq => by
      rcases List.mem_append.1 hq with hq | hq
      · exact h3 p (by simp [hp]) q hq
      · obtain rfl := List.mem_singleton.1 hq
        intro e
        exact h2.1 (List.mem_map.2 ⟨p, hp, e.symm⟩)]
    rfl
/-- the last of these is a text (b, if there is none) -/
def lastB (b : Bool) (l : List Tr) : Bool := match l.getLast? with
  | some k => decide (k.n = [])
  | none => b
theorem ksB_snoc : ∀ (l : List Tr) (b : Bool) (y : Tr), Tr.ksB b (l ++ [y]) = (Tr.ksB b l && (if y.n = [] then decide (y.ats = []) && decide (y.ks = []) && decide (y.t ≠ []) && plB y.t && !lastB b l else y.rightB))
  | [], b, y => by
    rw [List.nil_append, ksB_cons, Tr.ksB, Tr.ksB, Bool.and_true, Bool.true_and]
    rfl
  | x :: l, b, y => by
    rw [List.cons_append, ksB_cons, ksB_cons, ksB_snoc l _ y]
    have : lastB (decide (x.n = [])) l = lastB b (x :: l) := by
      unfold lastB
      cases l with
      | nil => rfl
      | cons z l =>
        rw [List.getLast?_cons_cons]
        cases hl : (z :: l).getLast? with
        | none => simp at hl
        | some k => rfl
    rw [this]
    exact (Bool.and_assoc _ _ _).symm
def dpt : List Tr → Prop
  | [] => True
  | f :: st => st.length + 1 + Tr.deps f.ks ≤ 64 ∧ dpt st
def cntS : List Tr → Nat
  | [] => 0
  | f :: st => f.size + cntS st
def wtS : List Tr → Nat
  | [] => 0
  | f :: st => ((tagP f.n f.ats).length + 1 + (prM (tkL f.ks)).length) + wtS st
def rtS : Option Tr → Nat
  | none => 0
  | some t => t.size
def rtW : Option Tr → Nat
  | none => 0
  | some t => (prM (tkT t)).length
/-- on the way; W: how long what was read is printed -/
structure GI (g : Gs) (W : Nat) : Prop where
  fr : ∀ f ∈ g.st, FrG f
  dp : dpt g.st
  ct : cntS g.st + rtS g.root = g.c
  c : g.c ≤ 4096
  rt : ∀ t, g.root = some t → g.st = [] ∧ t.rightB = true ∧ t.dep ≤ 64
  wt : wtS g.st + rtW g.root ≤ W
theorem GI.more {g : Gs} {W V : Nat} (h : GI g W) (hw : W ≤ V) : GI g V := ⟨h.fr, h.dp, h.ct, h.c, h.rt, Nat.le_trans h.wt hw⟩
theorem prT_el {x : Tr} (hn : x.n ≠ []) : (prM (tkT x)).length = if x.ks = [] then (tagP x.n x.ats).length + 2 else (tagP x.n x.ats).length + 1 + (prM (tkL x.ks)).length + (x.n.length + 3) := by
  by_cases hk : x.ks = []
  · rw [if_pos hk, tkT_empty hn hk, prM_cons]
    show ((tagP x.n x.ats ++ [47, 62]) ++ []).length = _
    simp
  · rw [if_neg hk, tkT_full hn hk, prM_cons, prM_app3]
    show ((tagP x.n x.ats ++ [62]) ++ (prM (tkL x.ks) ++ (60 :: 47 :: (x.n ++ [62]) ++ []))).length = _
    simp only [List.length_append, List.length_cons, List.length_nil]
    omega
theorem size_add (u x : Tr) : (u.add x).size = u.size + x.size := by
  unfold Tr.add
  rw [Tr.size, Tr.sizes_app, u.size_ks]
  simp only [Tr.sizes]; omega
theorem deps_one (l : List Tr) (x : Tr) (hn : x.n ≠ []) : Tr.deps (l ++ [x]) = max (Tr.deps l) x.dep := by
  rw [deps_app]
  simp only [Tr.deps]
  rw [if_neg hn]
  omega
theorem deps_txt (l : List Tr) (x : Tr) (hn : x.n = []) : Tr.deps (l ++ [x]) = Tr.deps l := by
  rw [deps_app]
  simp only [Tr.deps]
  rw [if_pos hn]
  omega
/-- the innermost one ends -/
theorem GI.leave {x : Tr} {st : List Tr} {c W E : Nat} (h : GI ⟨x :: st, none, c⟩ W) (hE : (prM (tkT x)).length ≤ (tagP x.n x.ats).length + 1 + (prM (tkL x.ks)).length + E) : GI (leaveG ⟨x :: st, none, c⟩) (W + E) := by
  have hx := h.fr x (by simp)
  have hr := hx.right
  have hd := h.dp
  have hw := h.wt
  have hct := h.ct
  simp only [dpt, wtS, rtW, cntS, rtS] at hd hw hct
  have hdx : x.dep = Tr.deps x.ks + 1 := x.dep_ks
  cases st with
  | nil =>
    show GI ⟨[], some x, c⟩ (W + E)
    refine ⟨by simp, trivial, ?_, h.c, fun t ht => ?_, ?_⟩
    · simp only [cntS, rtS] at hct ⊢; omega
    · cases ht
      exact ⟨rfl, hr, by have := hd.1; simp only [List.length_nil] at this; omega⟩
    · simp only [wtS, rtW] at hw ⊢; omega
  | cons u st =>
    show GI ⟨u.add x :: st, none, c⟩ (W + E)
    have hu := h.fr u (by simp)
    simp only [dpt, wtS, cntS] at hd hw hct
    refine ⟨fun f hf => ?_, ?_, ?_, h.c, (fun t ht => by cases ht), ?_⟩
    · rcases List.mem_cons.1 hf with rfl | hf
      · refine ⟨hu.n, hu.t, hu.a, ?_⟩
        show Tr.ksB false (u.ks ++ [x]) = true
        rw [ksB_snoc, hu.k, if_neg hx.n.1, hr]; rfl
      · exact h.fr f (by simp [hf])
    · refine ⟨?_, hd.2.2⟩
      show st.length + 1 + Tr.deps (u.ks ++ [x]) ≤ 64
      rw [deps_one _ _ hx.n.1]
      have h1 := hd.1
      have h2 := hd.2.1
      simp only [List.length_cons] at h1
      omega
    · show (u.add x).size + cntS st + 0 = c
      rw [size_add]; omega
    · show ((tagP u.n u.ats).length + 1 + (prM (tkL (u.ks ++ [x]))).length) + wtS st + 0 ≤ W + E
      rw [tkL_app, prM_app3, List.length_append]
      have : tkL [x] = tkT x := by simp [tkL]
      rw [this]
      omega
theorem escS_app (a b : List UInt8) : escS false (a ++ b) = escS false a ++ escS false b := by simp [escS]
theorem tk_txt (s : List UInt8) : prM (tkT (.mk [] [] [] s)) = escS false s := by
  rw [tkT_text rfl, prM_cons]
  show escS false s ++ [] = _
  rw [List.append_nil]
theorem GI.step {g g' : Gs} {W : Nat} {x : Tk} {b : Bool} (h : GI g W) (hx : Gd b x.k x.n x.ats x.t) (ha : addG g x = .ok g') : GI g' (W + (prT x.k x.n x.ats x.t).length) := by
  obtain ⟨k, n, ats, t, o⟩ := x
  obtain ⟨st, root, c⟩ := g
  dsimp only at hx
  have beg : ∀ {f0 : Gs}, isN n → (∀ p ∈ ats, okA p) → (ats.map (·.1)).Nodup → ¬ root.isSome = true → ¬ (64 ≤ st.length ∨ 4096 ≤ c) → GI ⟨.mk n ats [] [] :: st, root, c + 1⟩ (W + ((tagP n ats).length + 1)) ∧ root = none := fun {f0} h1 h2 h3 h4 h5 => by
    have hr : root = none := by
      cases root with
      | none => rfl
      | some t => simp at h4
    subst hr
    have hw := h.wt
    have hct := h.ct
    simp only [rtW, rtS] at hw hct
    refine ⟨⟨fun f hf => ?_, ⟨?_, h.dp⟩, ?_, by show c + 1 ≤ 4096; omega, (fun t ht => by cases ht), ?_⟩, rfl⟩
    · rcases List.mem_cons.1 hf with rfl | hf
      · exact ⟨h1, rfl, atsB_of _ _ h2 h3 (by simp), rfl⟩
      · exact h.fr f hf
    · show st.length + 1 + Tr.deps [] ≤ 64
      simp only [Tr.deps]; omega
    · show (Tr.mk n ats [] []).size + cntS st + 0 = c + 1
      simp only [Tr.size, Tr.sizes]; omega
    · show ((tagP n ats).length + 1 + (prM (tkL [])).length) + wtS st + 0 ≤ _
      simp only [tkL, prM, List.flatMap_nil, List.length_nil]; omega
  rcases hx with ⟨rfl, rfl, rfl, hx⟩ | ⟨rfl, rfl, rfl, hx⟩ | ⟨rfl, rfl, rfl, hx, _⟩ | ⟨rfl, hn, rfl, rfl⟩ | ⟨hk, hn, hok, hnd, rfl⟩
  · -- a text
    have ha : textG ⟨st, root, c⟩ t = .ok g' := ha
    show GI g' (W + (escS false t).length)
    unfold textG at ha
    cases st with
    | nil =>
      dsimp only at ha
      split at ha
      · cases ha; exact h.more (by omega)
      · cases ha
    | cons u st =>
      dsimp only at ha
      split at ha
      · cases ha; exact h.more (by omega)
      · next ht =>
        have hu := h.fr u (by simp)
        have hd := h.dp
        have hw := h.wt
        have hct := h.ct
        have hroot : root = none := by
          cases hr : root with
          | none => rfl
          | some t => have := (h.rt t hr).1; cases this
        subst hroot
        simp only [dpt, wtS, rtW, cntS, rtS] at hd hw hct
        have hpl : plB t = true := List.all_eq_true.2 hx
        have new : lastB false u.ks = false → ¬ 4096 ≤ c → GI ⟨u.add (.mk [] [] [] t) :: st, none, c + 1⟩ (W + (escS false t).length) := fun hl hc => by
          refine ⟨fun f hf => ?_, ⟨?_, hd.2⟩, ?_, by show c + 1 ≤ 4096; omega, (fun t ht => by cases ht), ?_⟩
          · rcases List.mem_cons.1 hf with rfl | hf
            · refine ⟨hu.n, hu.t, hu.a, ?_⟩
              show Tr.ksB false (u.ks ++ [Tr.mk [] [] [] t]) = true
              rw [ksB_snoc, hu.k, if_pos (show (Tr.mk [] [] [] t).n = [] from rfl), hl]
              show (true && (decide (([] : List At2) = []) && decide (([] : List Tr) = []) && decide (t ≠ []) && plB t && !false)) = true
              rw [hpl, decide_eq_true ht]
              simp
            · exact h.fr f (by simp [hf])
          · show st.length + 1 + Tr.deps (u.ks ++ [Tr.mk [] [] [] t]) ≤ 64
            rw [deps_txt _ _ rfl]; exact hd.1
          · show (u.add (Tr.mk [] [] [] t)).size + cntS st + 0 = c + 1
            rw [size_add]
            simp only [Tr.size, Tr.sizes]; omega
          · show ((tagP u.n u.ats).length + 1 + (prM (tkL (u.ks ++ [Tr.mk [] [] [] t]))).length) + wtS st + 0 ≤ _
            rw [tkL_app, prM_app3, List.length_append]
            have : tkL [Tr.mk [] [] [] t] = tkT (Tr.mk [] [] [] t) := by simp [tkL]
            rw [this, tk_txt]
            omega
        split at ha
        · next k hk =>
          split at ha
          · next hkn =>
            cases ha
            obtain ⟨ks, hks⟩ := List.getLast?_eq_some_iff.1 hk
            have hkk := hu.k
            rw [hks, ksB_snoc, if_pos hkn, Bool.and_eq_true] at hkk
            obtain ⟨g1, g2⟩ := hkk
            simp only [Bool.and_eq_true, decide_eq_true_eq] at g2
            obtain ⟨⟨⟨⟨q1, q2⟩, q3⟩, q4⟩, q5⟩ := g2
            obtain ⟨kn, ka, kk, kt⟩ := k
            dsimp only [Tr.n, Tr.ats, Tr.ks, Tr.t] at hkn q1 q2 q3 q4
            subst hkn; subst q1; subst q2
            have hput : u.put (Tr.mk [] [] [] (kt ++ t)) = Tr.mk u.n u.ats (ks ++ [Tr.mk [] [] [] (kt ++ t)]) u.t := by
              unfold Tr.put
              rw [hks, List.dropLast_concat]
            have hsz : u.size = 1 + (Tr.sizes ks + 1) := by
              rw [u.size_ks, hks, Tr.sizes_app]; simp [Tr.sizes, Tr.size]
            have hdk : Tr.deps u.ks = Tr.deps ks := by rw [hks]; exact deps_txt _ _ rfl
            have hpk : (prM (tkL u.ks)).length = (prM (tkL ks)).length + (escS false kt).length := by
              rw [hks, tkL_app, prM_app3, List.length_append]
              have : tkL [Tr.mk [] [] [] kt] = tkT (Tr.mk [] [] [] kt) := by simp [tkL]
              rw [this, tk_txt]
            show GI ⟨u.put (Tr.mk [] [] [] (kt ++ t)) :: st, none, c⟩ _
            rw [hput]
            refine ⟨fun f hf => ?_, ⟨?_, hd.2⟩, ?_, h.c, (fun t ht => by cases ht), ?_⟩
            · rcases List.mem_cons.1 hf with rfl | hf
              · refine ⟨hu.n, hu.t, hu.a, ?_⟩
                show Tr.ksB false (ks ++ [Tr.mk [] [] [] (kt ++ t)]) = true
                rw [ksB_snoc, g1, if_pos (show (Tr.mk [] [] [] (kt ++ t)).n = [] from rfl)]
                show (true && (decide (([] : List At2) = []) && decide (([] : List Tr) = []) && decide (kt ++ t ≠ []) && plB (kt ++ t) && !lastB false ks)) = true
                have e1 : plB (kt ++ t) = true := by unfold plB at hpl q4 ⊢; rw [List.all_append, q4, hpl]; rfl
                have e2 : decide (kt ++ t ≠ []) = true := decide_eq_true (by simp [ht])
                rw [e1, e2, q5]
                simp
              · exact h.fr f (by simp [hf])
            · show st.length + 1 + Tr.deps (ks ++ [Tr.mk [] [] [] (kt ++ t)]) ≤ 64
              rw [deps_txt _ _ rfl]; have := hd.1; omega
            · show (Tr.mk u.n u.ats (ks ++ [Tr.mk [] [] [] (kt ++ t)]) u.t).size + cntS st + 0 = c
              rw [Tr.size, Tr.sizes_app]
              simp only [Tr.size, Tr.sizes]; omega
            · show ((tagP u.n u.ats).length + 1 + (prM (tkL (ks ++ [Tr.mk [] [] [] (kt ++ t)]))).length) + wtS st + 0 ≤ _
              rw [tkL_app, prM_app3, List.length_append]
              have : tkL [Tr.mk [] [] [] (kt ++ t)] = tkT (Tr.mk [] [] [] (kt ++ t)) := by simp [tkL]
              rw [this, tk_txt, escS_app, List.length_append]
              omega
          · next hkn =>
            split at ha
            · cases ha
            · next hc =>
              cases ha
              exact new (by unfold lastB; rw [hk]; exact decide_eq_false hkn) hc
        · next hk =>
          split at ha
          · cases ha
          · next hc =>
            cases ha
            exact new (by unfold lastB; rw [hk]) hc
  · have ha : Rg.ok ⟨st, root, c⟩ = .ok g' := ha
    cases ha; exact h.more (by omega)
  · have ha : Rg.ok ⟨st, root, c⟩ = .ok g' := ha
    cases ha; exact h.more (by omega)
  · have ha : endG ⟨st, root, c⟩ n = .ok g' := ha
    unfold endG at ha
    cases st with
    | nil => cases ha
    | cons x st =>
      dsimp only at ha
      split at ha
      · next hxn =>
        cases ha
        have hroot : root = none := by
          cases hr : root with
          | none => rfl
          | some t => have := (h.rt t hr).1; cases this
        subst hroot
        refine h.leave ?_
        have hxx := h.fr x (by simp)
        rw [prT_el hxx.n.1, hxn]
        show _ ≤ _ + (60 :: 47 :: (n ++ [62])).length
        simp only [List.length_append, List.length_cons, List.length_nil]
        split <;> omega
      · cases ha
  · have ha : beginG ⟨st, root, c⟩ n ats k = .ok g' := by
      have : addG ⟨st, root, c⟩ ⟨k, n, ats, [], o⟩ = beginG ⟨st, root, c⟩ n ats k := by unfold addG; exact if_pos hk
      rw [← this]; exact ha
    unfold beginG at ha
    split at ha
    · cases ha
    · next h4 =>
      split at ha
      · cases ha
      · next h5 =>
        obtain ⟨hg, hr⟩ := beg (f0 := g') hn hok hnd h4 h5
        subst hr
        split at ha
        · next hk2 =>
          cases ha
          have e : (prT k n ats []).length = (tagP n ats).length + 1 + 1 := by
            rw [hk2]
            show (tagP n ats ++ [47, 62]).length = _
            simp
          rw [e, show W + ((tagP n ats).length + 1 + 1) = (W + ((tagP n ats).length + 1)) + 1 by omega]
          refine hg.leave ?_
          rw [prT_el (x := .mk n ats [] []) hn.1, if_pos (show (Tr.mk n ats [] []).ks = [] from rfl)]
          show (tagP n ats).length + 2 ≤ (tagP n ats).length + 1 + _ + 1
          omega
        · next hk2 =>
          cases ha
          have hk1 : k = 1 := by omega
          have e : (prT k n ats []).length = (tagP n ats).length + 1 := by
            rw [hk1]
            show (tagP n ats ++ [62]).length = _
            simp
          rw [e]
          exact hg
theorem GI.all {n : Nat} : ∀ (ts : List Tk) {g : Gs} {W : Nat} {t : Tr}, GI g W → (∀ x ∈ ts, ∃ b, Gd b x.k x.n x.ats x.t) → growM n g ts = .ok t → t.mayB = true ∧ (prM (tkT t)).length ≤ W + (prM (ts.map Tm.ofTk)).length
  | [], g, W, t, h, _, hg => by
    rw [growM] at hg
    split at hg
    · cases hg
    · next hst =>
      split at hg
      · cases hg
      · next t0 hr =>
        cases hg
        obtain ⟨h1, h2, h3⟩ := h.rt t hr
        have hct := h.ct
        have hw := h.wt
        rw [h1, hr] at hct hw
        simp only [cntS, rtS, wtS, rtW] at hct hw
        have hc := h.c
        refine ⟨?_, by omega⟩
        unfold Tr.mayB
        rw [h2, decide_eq_true (show t.size ≤ 4096 by omega), decide_eq_true h3]
        rfl
  | x :: ts, g, W, t, h, hx, hg => by
    rw [growM] at hg
    obtain ⟨b, hb⟩ := hx x (by simp)
    cases ha : addG g x with
    | bad e => rw [ha] at hg; cases hg
    | ok g' =>
      rw [ha] at hg
      have := GI.all ts (h.step hb ha) (fun y hy => hx y (by simp [hy])) hg
      refine ⟨this.1, ?_⟩
      have e : (prM ((x :: ts).map Tm.ofTk)).length = (prT x.k x.n x.ats x.t).length + (prM (ts.map Tm.ofTk)).length := by
        rw [List.map_cons, prM_cons, List.length_append]; rfl
      rw [e]
      have := this.2
      omega
/-- what is built of a text -/
theorem build_may {l : List UInt8} {t : Tr} (h : buildM l = .ok t) : t.mayB = true ∧ (prM (tkT t)).length ≤ 6 * l.length := by
  unfold buildM at h
  cases ha : allM l with
  | bad e r => rw [ha] at h; cases h
  | ok ts r =>
    rw [ha] at h
    obtain ⟨g1, g2⟩ := chain_gd ts (all_chain ha) (Nat.le_refl _)
    have h0 : GI ⟨[], none, 0⟩ 0 := ⟨by simp, trivial, rfl, by simp, (fun t ht => by cases ht), by simp [wtS, rtW]⟩
    obtain ⟨q1, q2⟩ := GI.all ts h0 (fun x hx => by
      obtain ⟨i, hi⟩ := List.getElem?_of_mem hx
      exact ⟨_, g2 i x hi⟩) h
    refine ⟨q1, ?_⟩
    have e : (prM (ts.map Tm.ofTk)).length = (prM (ts.map (Tk.mem l))).length := by
      unfold prM
      rw [List.flatMap_map, List.flatMap_map]
      rfl
    omega
/-! errors -/
theorem add_bad3 {g : Gs} {x : Tk} {e : Int} (h : addG g x = .bad e) : e ≠ 0 := by
  unfold addG at h
  split at h
  · unfold beginG at h
    split at h
    · cases h; decide
    · split at h
      · cases h; decide
      · split at h <;> cases h
  · split at h
    · unfold endG at h
      split at h
      · cases h; decide
      · split at h
        · cases h
        · cases h; decide
    · split at h
      · unfold textG at h
        split at h
        · split at h
          · cases h
          · cases h; decide
        · split at h
          · cases h
          · split at h
            · split at h
              · cases h
              · split at h
                · cases h; decide
                · cases h
            · split at h
              · cases h; decide
              · cases h
      · cases h
theorem grow_bad3 {n : Nat} : ∀ (ts : List Tk) {g : Gs} {e : Int} {o : Nat}, growM n g ts = .bad e o → e ≠ 0 ∧ (o = n ∨ ∃ x ∈ ts, o = x.o)
  | [], g, e, o, h => by
    rw [growM] at h
    split at h
    · cases h; exact ⟨by decide, .inl rfl⟩
    · split at h
      · cases h; exact ⟨by decide, .inl rfl⟩
      · cases h
  | x :: ts, g, e, o, h => by
    rw [growM] at h
    cases ha : addG g x with
    | ok g' =>
      rw [ha] at h
      obtain ⟨h1, h2⟩ := grow_bad3 ts h
      refine ⟨h1, h2.imp id ?_⟩
      rintro ⟨y, hy, he⟩
      exact ⟨y, by simp [hy], he⟩
    | bad e' =>
      rw [ha] at h
      cases h
      exact ⟨add_bad3 ha, .inr ⟨x, by simp, rfl⟩⟩
theorem build_err {l : List UInt8} {c : Int} {o : Nat} (h : buildM l = .bad c o) : c ≠ 0 ∧ o ≤ l.length := by
  unfold buildM at h
  cases ha : allM l with
  | bad e r =>
    rw [ha] at h
    cases h
    exact ⟨all_ne ha, Nat.sub_le _ _⟩
  | ok ts r =>
    rw [ha] at h
    obtain ⟨h1, h2⟩ := grow_bad3 ts h
    refine ⟨h1, ?_⟩
    rcases h2 with rfl | ⟨x, hx, rfl⟩
    · exact Nat.le_refl _
    · obtain ⟨i, hi⟩ := List.getElem?_of_mem hx
      exact Nat.le_of_lt (rise_at ha hi).1
/-! sizes out of the print -/
theorem atsP_sizes : ∀ (l : List At2), l.length ≤ (l.flatMap atP).length ∧ ∀ p ∈ l, p.1.length ≤ (l.flatMap atP).length ∧ p.2.length ≤ (l.flatMap atP).length
  | [] => ⟨by simp, by simp⟩
  | p :: l => by
    obtain ⟨h1, h2⟩ := atsP_sizes l
    have he := esc_ge true p.2
    have hp : (atP p).length = 1 + p.1.length + 2 + (escS true p.2).length + 1 := by
      unfold atP
      simp only [List.length_cons, List.length_append, List.length_nil]
      omega
    simp only [List.flatMap_cons, List.length_append, List.length_cons]
    refine ⟨by omega, fun q hq => ?_⟩
    rcases List.mem_cons.1 hq with rfl | hq
    · omega
    · have := h2 q hq
      omega
theorem tagP_len (n : List UInt8) (ats : List At2) : (tagP n ats).length = 1 + n.length + (ats.flatMap atP).length := by
  unfold tagP
  simp only [List.length_cons, List.length_append]
  omega
theorem tbs_app : ∀ a b : List Tr, Tr.tbs (a ++ b) ↔ Tr.tbs a ∧ Tr.tbs b
  | [], b => by simp [Tr.tbs]
  | x :: a, b => by
    have := tbs_app a b
    simp only [List.cons_append, Tr.tbs, this, and_assoc]
mutual
/-- attributes are not too many -/
def Tr.tc : Tr → Prop
  | .mk n ats ks t => ats.length ≤ 100000 ∧ Tr.tcs ks
def Tr.tcs : List Tr → Prop
  | [] => True
  | k :: ks => k.tc ∧ Tr.tcs ks
end
mutual
theorem tb_of : ∀ (x : Tr), x.rightB = true → (prM (tkT x)).length ≤ 100000 → x.tb ∧ x.tc
  | .mk n ats ks t, h, hl => by
    obtain ⟨h1, h2, h3, h4⟩ := right_parts h
    dsimp only [Tr.n, Tr.t, Tr.ats, Tr.ks] at h1 h2 h3 h4
    rw [prT_el (x := .mk n ats ks t) h1.1] at hl
    have ht := tagP_len n ats
    obtain ⟨a1, a2⟩ := atsP_sizes ats
    have hk : (prM (tkL ks)).length ≤ 100000 ∧ (tagP n ats).length ≤ 100000 := by
      by_cases e : ks = []
      · rw [if_pos (show (Tr.mk n ats ks t).ks = [] from e)] at hl
        have hl : (tagP n ats).length + 2 ≤ 100000 := hl
        subst e; simp [tkL, prM]; omega
      · rw [if_neg (show ¬ (Tr.mk n ats ks t).ks = [] from e)] at hl
        have hl : (tagP n ats).length + 1 + (prM (tkL ks)).length + (n.length + 3) ≤ 100000 := hl
        omega
    obtain ⟨k1, k2⟩ := tbs_of ks false h4 hk.1
    exact ⟨⟨by omega, by rw [h2]; simp, fun p hp => by have := a2 p hp; omega, k1⟩, by omega, k2⟩
theorem tbs_of : ∀ (l : List Tr) (b : Bool), Tr.ksB b l = true → (prM (tkL l)).length ≤ 100000 → Tr.tbs l ∧ Tr.tcs l
  | [], _, _, _ => ⟨trivial, trivial⟩
  | x :: l, b, h, hl => by
    obtain ⟨h1, h2⟩ := ks_parts h
    rw [tkL, prM_app3, List.length_append] at hl
    obtain ⟨g1, g2⟩ := tbs_of l _ h2 (by omega)
    rcases h1 with ⟨q1, q2, q3, q4, q5, q6⟩ | ⟨q1, q2⟩
    · obtain ⟨n, ats, ks, t⟩ := x
      dsimp only [Tr.n, Tr.t, Tr.ats, Tr.ks] at q1 q2 q3 q4 q5
      subst q1; subst q2; subst q3
      rw [tk_txt] at hl
      have he := esc_ge false t
      exact ⟨⟨⟨by simp, by omega, by simp, trivial⟩, g1⟩, ⟨⟨by simp, trivial⟩, g2⟩⟩
    · obtain ⟨x1, x2⟩ := tb_of x q2 (by omega)
      exact ⟨⟨x1, g1⟩, ⟨x2, g2⟩⟩
end
theorem prT_in : ∀ (M : List Tm) (y : Tm), y ∈ M → (prT y.k y.n y.ats y.t).length ≤ (prM M).length
  | [], y, h => by simp at h
  | x :: M, y, h => by
    rw [prM_cons, List.length_append]
    rcases List.mem_cons.1 h with rfl | h
    · omega
    · have := prT_in M y h; omega
/-- the bounds that printing wants -/
theorem print_ok {x : Tr} (h : x.rightB = true) (hl : (prM (tkT x)).length ≤ 100000) : ∀ y ∈ tkT x, y.t.length ≤ 2000000 ∧ ∀ p ∈ y.ats, p.2.length ≤ 2000000 := by
  intro y hy
  have h1 := prT_in _ y hy
  obtain ⟨h2, _⟩ := (okT_T x h).1 y hy
  rcases h2 with ⟨hk, hn, ha, _⟩ | ⟨hk, hn, ha, _⟩ | ⟨hk, hn, ha, _, _, hf⟩ | ⟨hk, _, ha, ht⟩ | ⟨hk, _, _, _, ht⟩
  · rw [ha]
    rw [show prT y.k y.n y.ats y.t = escS false y.t by rw [hk]; rfl] at h1
    have := esc_ge false y.t
    exact ⟨by omega, by simp⟩
  · rw [ha]
    rw [show prT y.k y.n y.ats y.t = 60 :: 33 :: 45 :: 45 :: (y.t ++ [45, 45, 62]) by rw [hk]; rfl] at h1
    simp only [List.length_cons, List.length_append, List.length_nil] at h1
    exact ⟨by omega, by simp⟩
  · cases hf
  · rw [ha, ht]; simp
  · rw [ht]
    obtain ⟨a1, a2⟩ := atsP_sizes y.ats
    have hg := tagP_len y.n y.ats
    refine ⟨by simp, fun p hp => ?_⟩
    have := (a2 p hp).2
    rcases hk with hk | hk
    · rw [show prT y.k y.n y.ats y.t = tagP y.n y.ats ++ [62] by rw [hk]; rfl, List.length_append] at h1
      omega
    · rw [show prT y.k y.n y.ats y.t = tagP y.n y.ats ++ [47, 62] by rw [hk]; rfl, List.length_append] at h1
      omega
end
/-! Rf2 -/
section
open Go.RowKit

/-- the answer's reader in block X has r of l still to read; its error is c, at o -/
def RR (w : World) (X : Nat) (l r : List UInt8) (c o : Int) : Prop :=
  r <:+ l ∧ w.heap[X]? = some (.cells #[.string (str l), .int .i64 ((l.length - r.length : Nat) : Int), .int .i64 c, .int .i64 o] 84 (0, 0))
section
variable {w w' : World} {X : Nat} {l r r' : List UInt8} {c o : Int}
theorem RR.lt (h : RR w X l r c o) : X < w.heap.size := (Array.getElem?_eq_some_iff.1 h.2).1
theorem RR.cells (h : RR w X l r c o) : w.cell? ⟨X, 0, none⟩ = some (.string (str l)) ∧ w.cell? ⟨X, 1, none⟩ = some (.int .i64 ((l.length - r.length : Nat) : Int)) ∧ w.cell? ⟨X, 2, none⟩ = some (.int .i64 c) ∧ w.cell? ⟨X, 3, none⟩ = some (.int .i64 o) := by
  refine ⟨?_, ?_, ?_, ?_⟩
  · rw [cell_of_row w X 0 _ _ (0, 0) h.2]; rfl
  · rw [cell_of_row w X 1 _ _ (0, 0) h.2]; rfl
  · rw [cell_of_row w X 2 _ _ (0, 0) h.2]; rfl
  · rw [cell_of_row w X 3 _ _ (0, 0) h.2]; rfl
theorem RR.frozen (h : RR w X l r c o) (k : Nat) : w.frozen? ⟨X, k, none⟩ = false := frozen_of_row w X k _ _ h.2
theorem RR.below (h : RR w X l r c o) (hb : Below w.heap.size w w') : RR w' X l r c o := ⟨h.1, (hb.block X h.lt).trans h.2⟩
theorem RR.kept {row : Option Nat} (h : RR w X l r c o) (hg : w.grownBy w' row) (hr : row ≠ some X) : RR w' X l r c o := ⟨h.1, (hg.block X h.lt (fun e => hr e.symm)).trans h.2⟩
theorem RR.put (h : RR w X l r c o) (h2 : r' <:+ l) (e : Int) (he : e = ((l.length - r'.length : Nat) : Int)) : RR (w.setCell ⟨X, 1, none⟩ (.int .i64 e)) X l r' c o := ⟨h2, by rw [he]; exact heap_setCell_same w X 1 _ _ _ h.2⟩
end
/-- what a method leaves -/
def RM (X : Nat) (l r : List UInt8) (c o : Int) (w w' : World) : Prop := RR w' X l r c o ∧ w.grownBy w' (some X)
section
variable {w w1 w2 : World} {X : Nat} {l r r' : List UInt8} {c o c' o' : Int}
theorem RM.trans (h : RM X l r c o w w1) (k : RM X l r' c' o' w1 w2) : RM X l r' c' o' w w2 := ⟨k.1, h.2.trans k.2⟩
theorem RM.refl (h : RR w X l r c o) : RM X l r c o w w := ⟨h, World.grownBy.refl _ _⟩
theorem RM.drew0 (h : RR w X l r c o) : RM X l r c o w w.drew := ⟨h, ⟨rfl, rfl, rfl, Nat.le_refl _, fun _ _ _ => rfl⟩⟩
theorem RM.drew (h : RR w X l r c o) (q : Nat) : RM X l r c o w (w.drewN q) := ⟨h.below (below_drewN (Below.refl _ w) q), drewN_grown w q _⟩
theorem RM.below (h : RR w X l r c o) (hb : Below w.heap.size w w1) : RM X l r c o w w1 := ⟨h.below hb, ⟨hb.os, hb.tape, hb.output, hb.size, fun k hk _ => hb.block k hk⟩⟩
theorem RM.put (h : RR w X l r c o) (h2 : r' <:+ l) (e : Int) (he : e = ((l.length - r'.length : Nat) : Int)) : RM X l r' c o w (w.setCell ⟨X, 1, none⟩ (.int .i64 e)) := ⟨h.put h2 e he, set_grown2 w X 1 _⟩
end
/-- the byte at k of r, in l -/
theorem suf_get {l r : List UInt8} (h : r <:+ l) (k : Nat) : l[l.length - r.length + k]? = r[k]? := by
  obtain ⟨q, rfl⟩ := h
  rw [List.length_append, Nat.add_sub_cancel, List.getElem?_append_right (by omega)]
  congr 1
  omega
set_option maxHeartbeats 1000000 in
theorem rat_some (X : Nat) (l r : List UInt8) (c o : Int) (k : Nat) (b : UInt8) (hb : r[k]? = some b) (hl : l.length ≤ 1000000) (w : World) (h : RR w X l r c o) :
    Calls Tryz.prog 65 #[.pointer (some ⟨X, 0, none⟩), .int .i64 (k : Int)] w fun e w' => e = .returned (.int .u8 (b.toNat : Int)) ∧ RM X l r c o w w' := by
  obtain ⟨c0, c1, c2, c3⟩ := h.cells
  have H := Lib.hid h
  have hk := (List.getElem?_eq_some_iff.1 hb).1
  have hll := suf_len h.1
  have hi := fun w => bidx2 (str l) (l.length - r.length + k) b (by rw [toList_str, suf_get h.1]; exact hb) w
  have hlt : ((l.length - r.length : Nat) : Int) + (k : Int) < ((str l).size : Int) := by rw [size_str]; omega
  have hbd : ((str l).size : Int) ≤ 1000000 := by rw [size_str]; omega
  generalize l.length - r.length = n at c1 hi hlt
  have hi2 : ∀ w, (Instr.index 9 (.string (str l)) (.int .i64 ((n : Int) + (k : Int)))).run Tryz.prog w = .ok (.int .u8 (b.toNat : Int)) w := fun w => by
    have := hi w
    rwa [show ((n + k : Nat) : Int) = (n : Int) + (k : Int) by omega] at this
  clear h hk hll hi hb
  go_enter Tryz.func65, Tryz.ntmps65
  go_wp2_with fail
  go_region
  all_goals go_upto_region 3 with fail
  go_region
  all_goals go_wp2
  go_ret
  exact ⟨rfl, (RM.drew0 H.out).trans (RM.drew0 (RM.drew0 H.out).1)⟩
set_option maxHeartbeats 1000000 in
theorem rat_none (X : Nat) (l r : List UInt8) (c o : Int) (k : Nat) (hk : r.length ≤ k) (hk2 : k ≤ 100) (hl : l.length ≤ 1000000) (w : World) (h : RR w X l r c o) :
    Calls Tryz.prog 65 #[.pointer (some ⟨X, 0, none⟩), .int .i64 (k : Int)] w fun e w' => e = .returned (.int .u8 0) ∧ RM X l r c o w w' := by
  obtain ⟨c0, c1, c2, c3⟩ := h.cells
  have H := Lib.hid h
  have hll := suf_len h.1
  have hlt : ((str l).size : Int) ≤ ((l.length - r.length : Nat) : Int) + (k : Int) := by rw [size_str]; omega
  have hbd : ((l.length - r.length : Nat) : Int) ≤ 1000000 := by omega
  have hkI : (k : Int) ≤ 100 := by omega
  generalize l.length - r.length = n at c1 hlt hbd
  clear h hk hll hk2
  go_enter Tryz.func65, Tryz.ntmps65
  go_wp2_with fail
  go_region
  all_goals go_wp2
  go_ret
  exact ⟨rfl, RM.drew0 H.out⟩
set_option maxHeartbeats 1000000 in
theorem rfail_no (X : Nat) (l r : List UInt8) (c o e0 off : Int) (hc : (c == 0) = false) (w : World) (h : RR w X l r c o) :
    Calls Tryz.prog 91 #[.pointer (some ⟨X, 0, none⟩), .int .i64 e0, .int .i64 off] w fun e w' => e = .returned (.tuple #[]) ∧ w' = w := by
  obtain ⟨c0, c1, c2, c3⟩ := h.cells
  clear h
  go_enter Tryz.func91, Tryz.ntmps91
  go_wp2
  go_end0
  exact ⟨rfl, rfl⟩
set_option maxHeartbeats 1000000 in
theorem rfail_yes (X : Nat) (l r : List UInt8) (o e0 off : Int) (w : World) (h : RR w X l r 0 o) :
    Calls Tryz.prog 91 #[.pointer (some ⟨X, 0, none⟩), .int .i64 e0, .int .i64 off] w fun e w' => e = .returned (.tuple #[]) ∧ RM X l r e0 off w w' := by
  obtain ⟨c0, c1, c2, c3⟩ := h.cells
  have f2 := h.frozen 2
  have f3 := h.frozen 3
  have H := Lib.hid h
  have hrow := h.2
  clear h
  go_enter Tryz.func91, Tryz.ntmps91
  have hset := heap_setCell_same w X 2 _ _ (.int .i64 e0) hrow
  have hg := set_grown2 w X 2 (.int .i64 e0)
  go_upto_region 2 with fail
  generalize w.setCell ⟨X, 2, none⟩ (.int .i64 e0) = w2 at hset hg ⊢
  clear c0 c1 c2 c3 f2 f3 hrow
  have hrow : w2.heap[X]? = some (.cells #[.string (str l), .int .i64 ((l.length - r.length : Nat) : Int), .int .i64 e0, .int .i64 o] 84 (0, 0)) := hset
  have y3 : w2.cell? ⟨X, 3, none⟩ = some (.int .i64 o) := by rw [cell_of_row w2 X 3 _ _ (0, 0) hrow]; rfl
  have f3 := frozen_of_row w2 X 3 _ _ hrow
  have HG := Lib.hid (hg.trans (set_grown2 w2 X 3 (.int .i64 off)))
  have HSET := Lib.hid (heap_setCell_same w2 X 3 _ _ (.int .i64 off) hrow)
  clear hrow hset hg
  go_wp2
  go_end0
  exact ⟨rfl, ⟨H.out.1, HSET.out⟩, HG.out⟩
/-- is something wrong, or nothing left? -/
def RfE (X : Nat) (l r : List UInt8) (w w' : World) : Prop := (r = [] → RM X l r 13 (l.length : Int) w w') ∧ (r ≠ [] → RM X l r 0 0 w w')
set_option maxHeartbeats 1000000 in
theorem rend_bad (X : Nat) (l r : List UInt8) (c o : Int) (hc : (c == 0) = false) (w : World) (h : RR w X l r c o) :
    Calls Tryz.prog 90 #[.pointer (some ⟨X, 0, none⟩)] w fun e w' => e = .returned (.bool true) ∧ RM X l r c o w w' := by
  obtain ⟨c0, c1, c2, c3⟩ := h.cells
  have H := Lib.hid h
  have hll := suf_len h.1
  have HD := Lib.hid (RM.drew0 h)
  have HF := Lib.hid (fun off => rfail_no X l r c o 13 off hc w.drew (RM.drew0 h).1)
  obtain ⟨d0, d1, d2, d3⟩ := (RM.drew0 h).1.cells
  have hcn : (c != 0) = true := by rw [bne, hc]; rfl
  by_cases hr : r = []
  · have hle : ((str l).size : Int) ≤ ((l.length - r.length : Nat) : Int) := by rw [size_str, hr]; simp
    generalize l.length - r.length = n at c1 d1 hle
    clear h hll hr
    go_enter Tryz.func90, Tryz.ntmps90
    go_wp2_with fail
    go_region
    all_goals go_upto_region 2 with fail
    go_wp2_with fail
    refine (HF.out _).mono ?_
    rintro e w2 ⟨rfl, rfl⟩
    go_wp2
    go_ret
    exact ⟨rfl, HD.out⟩
  · have hle : ((l.length - r.length : Nat) : Int) < ((str l).size : Int) := by
      have := List.length_pos_iff.2 hr
      rw [size_str]; omega
    generalize l.length - r.length = n at c1 d1 hle
    clear h hll hr
    go_enter Tryz.func90, Tryz.ntmps90
    go_wp2_with fail
    go_region
    all_goals go_wp2
    go_ret
    exact ⟨rfl, HD.out⟩
set_option maxHeartbeats 1000000 in
theorem rend_ok (X : Nat) (l r : List UInt8) (w : World) (h : RR w X l r 0 0) :
    Calls Tryz.prog 90 #[.pointer (some ⟨X, 0, none⟩)] w fun e w' => e = .returned (.bool r.isEmpty) ∧ RfE X l r w w' := by
  obtain ⟨c0, c1, c2, c3⟩ := h.cells
  have H := Lib.hid h
  have hll := suf_len h.1
  have HD := Lib.hid (RM.drew0 h)
  have HF := Lib.hid (rfail_yes X l r 0 13 ((str l).size : Int) w.drew (RM.drew0 h).1)
  obtain ⟨d0, d1, d2, d3⟩ := (RM.drew0 h).1.cells
  by_cases hr : r = []
  · subst hr
    have hle : ((str l).size : Int) ≤ ((l.length - ([] : List UInt8).length : Nat) : Int) := by rw [size_str]; simp
    generalize l.length - ([] : List UInt8).length = n at c1 d1 hle
    clear h hll
    go_enter Tryz.func90, Tryz.ntmps90
    go_wp2_with fail
    go_region
    all_goals go_upto_region 2 with fail
    go_wp2_with fail
    refine HF.out.mono ?_
    rintro e w2 ⟨rfl, hm⟩
    have HM := Lib.hid (HD.out.trans hm)
    obtain ⟨e0, e1, e2, e3⟩ := hm.1.cells
    clear hm d0 d1 d2 d3 c0 c1 c2 c3
    go_wp2
    go_ret
    exact ⟨rfl, fun _ => by rw [← size_str l]; exact HM.out, fun h => absurd rfl h⟩
  · have hle : ((l.length - r.length : Nat) : Int) < ((str l).size : Int) := by
      have := List.length_pos_iff.2 hr
      rw [size_str]; omega
    have HR := Lib.hid hr
    have HE := Lib.hid (show r.isEmpty = false by simpa using hr)
    generalize l.length - r.length = n at c1 d1 hle
    clear h hll hr
    go_enter Tryz.func90, Tryz.ntmps90
    go_wp2_with fail
    go_region
    all_goals go_wp2
    go_ret
    exact ⟨ret_bool HE.out.symm, fun h => absurd h HR.out, fun _ => HD.out⟩
set_option maxRecDepth 100000 in
set_option maxHeartbeats 2000000 in
theorem rbegins_at (X : Nat) (l r f : List UInt8) (c o : Int) (hf : f.length ≤ 100) (hl : l.length ≤ 1000000) (w : World) (h : RR w X l r c o) :
    Calls Tryz.prog 63 #[.pointer (some ⟨X, 0, none⟩), .string (str f)] w fun e w' => e = .returned (.bool (f.isPrefixOf r)) ∧ RM X l r c o w w' := by
  obtain ⟨c0, c1, c2, c3⟩ := h.cells
  have H := Lib.hid h
  have hll := suf_len h.1
  have hsz := size_str l
  have hfz := size_str f
  by_cases hle : f.length ≤ r.length
  · have hx : (str l).extract (l.length - r.length) (l.length - r.length + (str f).size) = str (r.take f.length) := by
      rw [ext_str, toList_str, hfz, List.drop_take, suf_drop h.1]
      congr 2
      omega
    have hq : ((str (r.take f.length)).toList == (str f).toList) = f.isPrefixOf r := by
      rw [ByteArray.toList_eq, ByteArray.toList_eq, toList_str, toList_str, Bool.eq_iff_iff, beq_iff_eq, List.isPrefixOf_iff_prefix, List.prefix_iff_eq_take]
      exact eq_comm
    have hsl : ∀ w, (Instr.slice 9 (.string (str l)) (some (.int .i64 ((l.length - r.length : Nat) : Int))) (some (.int .i64 (((l.length - r.length : Nat) : Int) + ((str f).size : Int)))) none).run Tryz.prog w = .ok (.string (str (r.take f.length))) w := fun w => by
      rw [run_slice_string w 9 _ _ _ _ _ Tryz.underlying9 (by omega) (by omega) (by omega), ← hx]
      congr 3
    have hge : ((str f).size : Int) ≤ ((str l).size : Int) - ((l.length - r.length : Nat) : Int) := by omega
    have hbd : ((str l).size : Int) ≤ 1000000 := by omega
    have hn0 : ((l.length - r.length : Nat) : Int) ≤ ((str l).size : Int) := by omega
    have hfd : ((str f).size : Int) ≤ 100 := by omega
    generalize f.isPrefixOf r = q at hq ⊢
    generalize str (r.take f.length) = sx at hq hsl
    generalize l.length - r.length = n at c1 hsl hge hn0
    clear h hll hle hx hsz hfz hl hf
    go_enter Tryz.func63, Tryz.ntmps63
    go_wp2_with fail
    go_quiet (fail)
    go_wp2
    go_ret
    exact ⟨rfl, RM.drew H.out _⟩
  · have hno : f.isPrefixOf r = false := by
      rw [Bool.eq_false_iff]
      intro hp
      exact hle (List.isPrefixOf_iff_prefix.1 hp).length_le
    have hge : decide (((str f).size : Int) ≤ ((str l).size : Int) - ((l.length - r.length : Nat) : Int)) = false := decide_eq_false (by omega)
    have hbd : ((str l).size : Int) ≤ 1000000 := by omega
    have hn0 : ((l.length - r.length : Nat) : Int) ≤ ((str l).size : Int) := by omega
    have hfd : ((str f).size : Int) ≤ 100 := by omega
    rw [hno]
    have hgw : IntKind.i64.wrap (((str l).size : Int) - ((l.length - r.length : Nat) : Int)) = ((str l).size : Int) - ((l.length - r.length : Nat) : Int) := IntWalk.i64_in _ (by omega)
    generalize l.length - r.length = n at c1 hge hn0 hgw
    clear h hll hle hsz hfz hl hf hno
    go_enter Tryz.func63, Tryz.ntmps63
    go_wp2_with fail
    go_quiet (fail)
    go_wp2
    go_ret
    exact ⟨rfl, RM.drew H.out _⟩
end
/-! Rf2b -/
section
open Go.RowKit

theorem u8_ne2 {c d : UInt8} (h : c ≠ d) : ((c.toNat : Int) == d.toNat) = false := by
  rw [beq_eq_false_iff_ne]
  intro h2
  exact h (UInt8.toNat_inj.1 (by omega))
def offR (X : Nat) (w : World) : Nat := match w.cell? ⟨X, 1, none⟩ with | some (.int _ n) => n.toNat | _ => 0
theorem RR.off {w : World} {X : Nat} {l r : List UInt8} {c o : Int} (h : RR w X l r c o) : offR X w = l.length - r.length := by
  unfold offR
  rw [h.cells.2.1]
  simp
/-- what a method of the answer's reader ends with -/
def RfP {α : Type} (X : Nat) (l : List UInt8) (M : Rs α) (val : α → Value) (bad : Value) (w : World) (e : Ending) (w' : World) : Prop :=
  match M with
  | .ok a r => e = .returned (val a) ∧ RM X l r 0 0 w w'
  | .bad c r => e = .returned bad ∧ ∃ r', RM X l r' c ((l.length - r.length : Nat) : Int) w w'
set_option maxRecDepth 100000 in
set_option maxHeartbeats 4000000 in
theorem rblanks_at (X : Nat) (l r : List UInt8) (c o : Int) (hl : l.length ≤ 1000000) (w : World) (h : RR w X l r c o) :
    Calls Tryz.prog 68 #[.pointer (some ⟨X, 0, none⟩)] w fun e w' => e = .returned (.tuple #[]) ∧ RM X l (blanksM r) c o w w' := by
  have H := Lib.hid h
  clear h
  go_enter Tryz.func68, Tryz.ntmps68
  go_wp2_with fail
  go_loopw [] (fun wr => ∃ r', blanksM r' = blanksM r ∧ RM X l r' c o w wr) (fun wr => l.length - offR X wr)
  case atStart => exact ⟨r, rfl, RM.refl H.out⟩
  case round =>
    obtain ⟨r', hb, hm⟩ := hrel
    have HB := Lib.hid hb
    have HM := Lib.hid hm
    obtain ⟨c0, c1, c2, c3⟩ := hm.1.cells
    have hll := suf_len hm.1.1
    have hsz := size_str l
    clear hb
    cases r' with
    | nil =>
      have hn : decide (((l.length - ([] : List UInt8).length : Nat) : Int) < ((str l).size : Int)) = false := decide_eq_false (by rw [hsz]; simp)
      have hnN : decide (l.length - ([] : List UInt8).length < (str l).size) = false := decide_eq_false (by rw [hsz]; simp)
      generalize l.length - ([] : List UInt8).length = n at c1 hn hnN
      clear hm hll hsz
      go_upto_region 0 with fail
      go_quiet (fail)
      go_wp2
      go_end0
      exact ⟨rfl, by rw [← HB.out]; exact HM.out.trans (RM.drew HM.out.1 _)⟩
    | cons d r' =>
      have hn : decide (((l.length - (d :: r').length : Nat) : Int) < ((str l).size : Int)) = true := decide_eq_true (by rw [hsz]; simp at hll ⊢; omega)
      have hi := fun w => bidx2 (str l) (l.length - (d :: r').length) d (by rw [toList_str]; exact suf_at hm.1.1) w
      have hlt : l.length - (d :: r').length < (str l).size := by rw [hsz]; simp at hll ⊢; omega
      have HOFF := Lib.hid hm.1.off
      obtain ⟨n, hnn⟩ : ∃ n, n = l.length - (d :: r').length := ⟨_, rfl⟩
      rw [← hnn] at c1 hn hi hlt
      have HNN := Lib.hid hnn
      have C0 := Lib.hid (fun w1 (hb : Below wr.heap.size wr w1) => (hb.cell (World.block_lt_of_cell? wr _ c0)).trans c0)
      have C1 := Lib.hid (fun w1 (hb : Below wr.heap.size wr w1) => (hb.cell (World.block_lt_of_cell? wr _ c1)).trans c1)
      have HLL := Lib.hid hll
      have HSZ := Lib.hid hsz
      generalize hbl : bl d = b
      have HBL := Lib.hid hbl
      have HIS := Lib.hid (fun w => is_at (d.toNat : Int) 1 b (by decide) (by decide) (by rw [(cls_all _).1]; exact hbl) w)
      clear hm hll hsz hnn hbl c0 c1 c2 c3
      go_upto_region 0 with fail
      refine wp_region_held_drew (S := (fun w1 => Below wr.heap.size wr w1)) (by kernel_rfl) (by (try dsimp only); exact (Below.refl _ _).drew) (fun hHeld => ?_)
      generalize wr.drew = wd at hHeld ⊢
      refine wpAnyH_take (i := 0) (v := ?_) (by (simp only [List.getElem?_toArray, List.getElem?_cons_succ, List.getElem?_cons_zero]; rfl)) (by kernel_rfl) (by kernel_rfl) (by kernel_rfl) (by intro _ _ _ h; exact h) (Or.inl ⟨by rfl, ?_⟩) (by assumption) ?_
      rotate_left
      · (intro w hSw; (try dsimp only at hSw); go_simp; try (with_reducible rfl))
      simp only [Act.put, List.setIfInBounds_toArray, List.set_cons_zero, List.set_cons_succ]
      refine wpAnyH_take (i := 1) (v := ?_) (by (simp only [List.getElem?_toArray, List.getElem?_cons_succ, List.getElem?_cons_zero]; rfl)) (by kernel_rfl) (by kernel_rfl) (by kernel_rfl) (by intro _ _ _ h; exact h) (Or.inl ⟨by rfl, ?_⟩) (by assumption) ?_
      rotate_left
      · (intro w hSw; (try dsimp only at hSw); go_simp; try (with_reducible rfl))
      simp only [Act.put, List.setIfInBounds_toArray, List.set_cons_zero, List.set_cons_succ]
      refine wpAnyH_take (i := 2) (v := ?_) (by (simp only [List.getElem?_toArray, List.getElem?_cons_succ, List.getElem?_cons_zero]; rfl)) (by kernel_rfl) (by kernel_rfl) (by kernel_rfl) (by intro _ _ _ h; exact h) (Or.inl ⟨by rfl, ?_⟩) (by assumption) ?_
      rotate_left
      · (intro w hSw; (try dsimp only at hSw); go_simp; try (with_reducible rfl))
      simp only [Act.put, List.setIfInBounds_toArray, List.set_cons_zero, List.set_cons_succ]
      refine wpAnyH_take (i := 3) (v := ?_) (by (simp only [List.getElem?_toArray, List.getElem?_cons_succ, List.getElem?_cons_zero]; rfl)) (by kernel_rfl) (by kernel_rfl) (by kernel_rfl) (by intro _ _ _ h; exact h) (Or.inl ⟨by rfl, ?_⟩) (by assumption) ?_
      rotate_left
      · (intro w hSw; have q1 := C1.out w hSw; go_simp; try (with_reducible rfl))
      simp only [Act.put, List.setIfInBounds_toArray, List.set_cons_zero, List.set_cons_succ]
      refine wpAnyH_take (i := 4) (v := ?_) (by (simp only [List.getElem?_toArray, List.getElem?_cons_succ, List.getElem?_cons_zero]; rfl)) (by kernel_rfl) (by kernel_rfl) (by kernel_rfl) (by intro _ _ _ h; exact h) (Or.inl ⟨by rfl, ?_⟩) (by assumption) ?_
      rotate_left
      · (intro w hSw; (try dsimp only at hSw); go_simp; try (with_reducible rfl))
      simp only [Act.put, List.setIfInBounds_toArray, List.set_cons_zero, List.set_cons_succ]
      refine wpAnyH_take (i := 5) (v := ?_) (by (simp only [List.getElem?_toArray, List.getElem?_cons_succ, List.getElem?_cons_zero]; rfl)) (by kernel_rfl) (by kernel_rfl) (by kernel_rfl) (by intro _ _ _ h; exact h) (Or.inl ⟨by rfl, ?_⟩) (by assumption) ?_
      rotate_left
      · (intro w hSw; (try dsimp only at hSw); go_simp; try (with_reducible rfl))
      simp only [Act.put, List.setIfInBounds_toArray, List.set_cons_zero, List.set_cons_succ]
      refine wpAnyH_take (i := 6) (v := ?_) (by (simp only [List.getElem?_toArray, List.getElem?_cons_succ, List.getElem?_cons_zero]; rfl)) (by kernel_rfl) (by kernel_rfl) (by kernel_rfl) (by intro _ _ _ h; exact h) (Or.inl ⟨by rfl, ?_⟩) (by assumption) ?_
      rotate_left
      · (intro w hSw; (try dsimp only at hSw); go_simp; try (with_reducible rfl))
      simp only [Act.put, List.setIfInBounds_toArray, List.set_cons_zero, List.set_cons_succ]
      refine wpAnyH_take (i := 7) (v := ?_) (by (simp only [List.getElem?_toArray, List.getElem?_cons_succ, List.getElem?_cons_zero]; rfl)) (by kernel_rfl) (by kernel_rfl) (by kernel_rfl) (by intro _ _ _ h; exact h) (Or.inl ⟨by rfl, ?_⟩) (by assumption) ?_
      rotate_left
      · (intro w hSw; have q1 := C0.out w hSw; go_simp; try (with_reducible rfl))
      simp only [Act.put, List.setIfInBounds_toArray, List.set_cons_zero, List.set_cons_succ]
      refine wpAnyH_take (i := 8) (v := ?_) (by (simp only [List.getElem?_toArray, List.getElem?_cons_succ, List.getElem?_cons_zero]; rfl)) (by kernel_rfl) (by kernel_rfl) (by kernel_rfl) (by intro _ _ _ h; exact h) (Or.inl ⟨by rfl, ?_⟩) (by assumption) ?_
      rotate_left
      · (intro w hSw; (try dsimp only at hSw); go_simp; try (with_reducible rfl))
      simp only [Act.put, List.setIfInBounds_toArray, List.set_cons_zero, List.set_cons_succ]
      refine wpAnyH_take (i := 9) (v := ?_) (by (simp only [List.getElem?_toArray, List.getElem?_cons_succ, List.getElem?_cons_zero]; rfl)) (by kernel_rfl) (by kernel_rfl) (by kernel_rfl) (by intro _ _ _ h; exact h) (Or.inl ⟨by rfl, ?_⟩) (by assumption) ?_
      rotate_left
      · (intro w hSw; (try dsimp only at hSw); go_simp; try (with_reducible rfl))
      simp only [Act.put, List.setIfInBounds_toArray, List.set_cons_zero, List.set_cons_succ]
      refine wpAnyH_take (i := 10) (v := ?_) (by (simp only [List.getElem?_toArray, List.getElem?_cons_succ, List.getElem?_cons_zero]; rfl)) (by kernel_rfl) (by kernel_rfl) (by kernel_rfl) (by intro _ _ _ h; exact h) (Or.inl ⟨by rfl, ?_⟩) (by assumption) ?_
      rotate_left
      · (intro w hSw; (try dsimp only at hSw); go_simp; try (with_reducible rfl))
      simp only [Act.put, List.setIfInBounds_toArray, List.set_cons_zero, List.set_cons_succ]
      refine wpAnyH_take (i := 11) (v := ?_) (by (simp only [List.getElem?_toArray, List.getElem?_cons_succ, List.getElem?_cons_zero]; rfl)) (by kernel_rfl) (by kernel_rfl) (by kernel_rfl) (by intro _ _ _ h; exact h) (Or.inl ⟨by rfl, ?_⟩) (by assumption) ?_
      rotate_left
      · (intro w hSw; (try dsimp only at hSw); go_simp; try (with_reducible rfl))
      simp only [Act.put, List.setIfInBounds_toArray, List.set_cons_zero, List.set_cons_succ]
      refine wpAnyH_take (i := 12) (v := ?_) (by (simp only [List.getElem?_toArray, List.getElem?_cons_succ, List.getElem?_cons_zero]; rfl)) (by kernel_rfl) (by kernel_rfl) (by kernel_rfl) (by intro _ _ _ h; exact h) (Or.inl ⟨by rfl, ?_⟩) (by assumption) ?_
      rotate_left
      · (intro w hSw; (try dsimp only at hSw); go_simp; try (with_reducible rfl))
      simp only [Act.put, List.setIfInBounds_toArray, List.set_cons_zero, List.set_cons_succ]
      refine wpAnyH_take (i := 13) (v := ?_) (by (simp only [List.getElem?_toArray, List.getElem?_cons_succ, List.getElem?_cons_zero]; rfl)) (by kernel_rfl) (by kernel_rfl) (by kernel_rfl) (by intro _ _ _ h; exact h) (Or.inl ⟨by rfl, ?_⟩) (by assumption) ?_
      rotate_left
      · (intro w hSw; (try dsimp only at hSw); go_simp; try (with_reducible rfl))
      simp only [Act.put, List.setIfInBounds_toArray, List.set_cons_zero, List.set_cons_succ]
      refine wpAnyH_take (i := 14) (v := ?_) (by (simp only [List.getElem?_toArray, List.getElem?_cons_succ, List.getElem?_cons_zero]; rfl)) (by kernel_rfl) (by kernel_rfl) (by kernel_rfl) (by intro _ _ _ h; exact h) (Or.inl ⟨by rfl, ?_⟩) (by assumption) ?_
      rotate_left
      · (intro w hSw; have q1 := C0.out w hSw; go_simp; try (with_reducible rfl))
      simp only [Act.put, List.setIfInBounds_toArray, List.set_cons_zero, List.set_cons_succ]
      refine wpAnyH_take (i := 15) (v := ?_) (by (simp only [List.getElem?_toArray, List.getElem?_cons_succ, List.getElem?_cons_zero]; rfl)) (by kernel_rfl) (by kernel_rfl) (by kernel_rfl) (by intro _ _ _ h; exact h) (Or.inl ⟨by rfl, ?_⟩) (by assumption) ?_
      rotate_left
      · (intro w hSw; (try dsimp only at hSw); go_simp; try (with_reducible rfl))
      simp only [Act.put, List.setIfInBounds_toArray, List.set_cons_zero, List.set_cons_succ]
      refine wpAnyH_take (i := 16) (v := ?_) (by (simp only [List.getElem?_toArray, List.getElem?_cons_succ, List.getElem?_cons_zero]; rfl)) (by kernel_rfl) (by kernel_rfl) (by kernel_rfl) (by intro _ _ _ h; exact h) (Or.inl ⟨by rfl, ?_⟩) (by assumption) ?_
      rotate_left
      · (intro w hSw; (try dsimp only at hSw); go_simp; try (with_reducible rfl))
      simp only [Act.put, List.setIfInBounds_toArray, List.set_cons_zero, List.set_cons_succ]
      refine wpAnyH_take (i := 17) (v := ?_) (by (simp only [List.getElem?_toArray, List.getElem?_cons_succ, List.getElem?_cons_zero]; rfl)) (by kernel_rfl) (by kernel_rfl) (by kernel_rfl) (by intro _ _ _ h; exact h) (Or.inl ⟨by rfl, ?_⟩) (by assumption) ?_
      rotate_left
      · (intro w hSw; (try dsimp only at hSw); go_simp; try (with_reducible rfl))
      simp only [Act.put, List.setIfInBounds_toArray, List.set_cons_zero, List.set_cons_succ]
      refine wpAnyH_take (i := 18) (v := ?_) (by (simp only [List.getElem?_toArray, List.getElem?_cons_succ, List.getElem?_cons_zero]; rfl)) (by kernel_rfl) (by kernel_rfl) (by kernel_rfl) (by intro _ _ _ h; exact h) (Or.inl ⟨by rfl, ?_⟩) (by assumption) ?_
      rotate_left
      · (intro w hSw; have q1 := C1.out w hSw; go_simp; try (with_reducible rfl))
      simp only [Act.put, List.setIfInBounds_toArray, List.set_cons_zero, List.set_cons_succ]
      refine wpAnyH_take (i := 19) (v := ?_) (by (simp only [List.getElem?_toArray, List.getElem?_cons_succ, List.getElem?_cons_zero]; rfl)) (by kernel_rfl) (by kernel_rfl) (by kernel_rfl) (by intro _ _ _ h; exact h) (Or.inl ⟨by rfl, ?_⟩) (by assumption) ?_
      rotate_left
      · (intro w hSw; (try dsimp only at hSw); go_simp; try (with_reducible rfl))
      simp only [Act.put, List.setIfInBounds_toArray, List.set_cons_zero, List.set_cons_succ]
      refine wpAnyH_ready (rs := [20]) (by kernel_rfl) (by simp) ?_
      refine AllReadyH.cons (by (simp only [List.getElem?_toArray, List.getElem?_cons_succ, List.getElem?_cons_zero]; rfl)) (fun K hK => ?_) AllReadyH.nil
      go_simp
      go_at_call 48; refine (HIS.out _).mono ?_; rintro e w6 ⟨rfl, hw6⟩
      refine hK.out _ _ (by (try dsimp only); rw [hw6]; exact hHeld) (fun hHeld => ?_)
      clear hK K
      try simp only [Act.put, List.setIfInBounds_toArray, List.set_cons_zero, List.set_cons_succ]
      clear hw6
      refine wpAnyH_take (i := 21) (v := ?_) (by (simp only [List.getElem?_toArray, List.getElem?_cons_succ, List.getElem?_cons_zero]; rfl)) (by kernel_rfl) (by kernel_rfl) (by kernel_rfl) (by intro _ _ _ h; exact h) (Or.inl ⟨by rfl, ?_⟩) (by assumption) ?_
      rotate_left
      · (intro w hSw; (try dsimp only at hSw); go_simp; try (with_reducible rfl))
      simp only [Act.put, List.setIfInBounds_toArray, List.set_cons_zero, List.set_cons_succ]
      refine wpAnyH_done (by kernel_rfl) ?_ _
      have hr6 := HM.out.1.below hHeld
      have HM6 := Lib.hid (HM.out.trans (RM.below HM.out.1 hHeld))
      clear hHeld hn hi
      obtain ⟨c0, c1, c2, c3⟩ := hr6.cells
      rw [← HNN.out] at c1
      have f1 := hr6.frozen 1
      have hnI : (n : Int) ≤ 1000000 := by have := HSZ.out; omega
      clear hr6
      cases b
      case true =>
        have hsuf : r' <:+ l := (List.suffix_cons d r').trans HM6.out.1.1
        have HP := Lib.hid (RM.put HM6.out.1 hsuf ((n : Int) + 1) (by
          have h1 := HNN.out
          have h2 := HLL.out
          rw [h1]; simp at h2 ⊢; omega))
        have HO := Lib.hid (show l.length - offR X (w6.setCell ⟨X, 1, none⟩ (.int .i64 ((n : Int) + 1))) < l.length - offR X wr by
          rw [HP.out.1.off, HOFF.out]
          have h2 := HLL.out
          simp at h2 ⊢
          omega)
        clear hsuf hlt
        go_wp2
        go_roundw
        case rel => exact ⟨r', by rw [← HB.out]; unfold blanksM; rw [List.dropWhile_cons, if_pos HBL.out], HM6.out.trans HP.out⟩
        case measure => exact HO.out
      case false =>
        clear hlt
        go_wp2
        go_end0
        refine ⟨rfl, ?_⟩
        have : blanksM r = d :: r' := by rw [← HB.out]; unfold blanksM; rw [List.dropWhile_cons, if_neg (by rw [HBL.out]; simp)]
        rw [this]
        exact HM6.out
set_option maxHeartbeats 2000000 in
theorem rwant_bad (X : Nat) (l r : List UInt8) (c o : Int) (b : Int) (hc : (c == 0) = false) (w : World) (h : RR w X l r c o) :
    Calls Tryz.prog 69 #[.pointer (some ⟨X, 0, none⟩), .int .u8 b] w fun e w' => e = .returned (.tuple #[]) ∧ RM X l r c o w w' := by
  have HE := Lib.hid (rend_bad X l r c o hc w h)
  clear h
  go_enter Tryz.func69, Tryz.ntmps69
  go_wp2_with fail
  refine HE.out.mono ?_
  rintro e w2 ⟨rfl, hm⟩
  have HM := Lib.hid hm
  clear hm
  go_wp2
  (try simp only [Exit.inBlock, Exit.then]); refine bodyPost_ret (results_none rfl _ _ _) rfl ?_
  exact ⟨rfl, HM.out⟩
set_option maxHeartbeats 2000000 in
theorem rwant_at (X : Nat) (l r : List UInt8) (b : UInt8) (hl : l.length ≤ 1000000) (w : World) (h : RR w X l r 0 0) :
    Calls Tryz.prog 69 #[.pointer (some ⟨X, 0, none⟩), .int .u8 (b.toNat : Int)] w (RfP X l (mustM b r) (fun _ => .tuple #[]) (.tuple #[]) w) := by
  have HE := Lib.hid (rend_ok X l r w h)
  have HLL := Lib.hid (suf_len h.1)
  clear h
  go_enter Tryz.func69, Tryz.ntmps69
  cases r with
  | nil =>
    go_wp2_with fail
    refine HE.out.mono ?_
    rintro e w2 ⟨rfl, hm, _⟩
    have HM := Lib.hid (hm rfl)
    clear hm
    dsimp only [List.isEmpty]
    go_wp2
    (try simp only [Exit.inBlock, Exit.then]); refine bodyPost_ret (results_none rfl _ _ _) rfl ?_
    exact ⟨rfl, [], HM.out⟩
  | cons d r =>
    go_wp2_with fail
    refine HE.out.mono ?_
    rintro e w2 ⟨rfl, _, hm⟩
    have HM := Lib.hid (hm (by simp))
    have HA := Lib.hid (rat_some X l (d :: r) 0 0 0 d rfl hl w2 HM.out.1)
    clear hm
    dsimp only [List.isEmpty]
    go_wp2_with fail
    refine HA.out.mono ?_
    rintro e w3 ⟨rfl, hm3⟩
    have HM3 := Lib.hid (HM.out.trans hm3)
    obtain ⟨c0, c1, c2, c3⟩ := hm3.1.cells
    have f1 := hm3.1.frozen 1
    obtain ⟨n, hnn⟩ : ∃ n, n = l.length - (d :: r).length := ⟨_, rfl⟩
    rw [← hnn] at c1
    have HNN := Lib.hid hnn
    have hnI : (n : Int) ≤ 1000000 := by omega
    clear hm3 hnn
    by_cases hd : d = b
    · have hq : ((d.toNat : Int) != (b.toNat : Int)) = false := by rw [hd]; simp
      have HMM := Lib.hid (show mustM b (d :: r) = .ok () r by rw [mustM, if_pos hd])
      have hsuf : r <:+ l := (List.suffix_cons d r).trans HM3.out.1.1
      have HP := Lib.hid (RM.put HM3.out.1 hsuf ((n : Int) + 1) (by
        have h1 := HNN.out
        have h2 := HLL.out
        rw [h1]; simp at h2 ⊢; omega))
      clear hd hsuf
      go_wp2
      go_end0
      rw [HMM.out]
      exact ⟨rfl, HM3.out.trans HP.out⟩
    · have hq : ((d.toNat : Int) != (b.toNat : Int)) = true := by rw [bne, u8_ne2 hd]; rfl
      have HMM := Lib.hid (show mustM b (d :: r) = .bad 10 (d :: r) by rw [mustM, if_neg hd])
      have HF := Lib.hid (rfail_yes X l (d :: r) 0 10 (n : Int) w3 HM3.out.1)
      clear hd
      go_wp2_with fail
      refine HF.out.mono ?_
      rintro e w4 ⟨rfl, hm4⟩
      have HM4 := Lib.hid (HM3.out.trans hm4)
      clear hm4
      go_wp2
      (try simp only [Exit.inBlock, Exit.then]); refine bodyPost_ret (results_none rfl _ _ _) rfl ?_
      rw [HMM.out]
      exact ⟨rfl, d :: r, by rw [← HNN.out]; exact HM4.out⟩
set_option maxHeartbeats 2000000 in
theorem rname_at (X : Nat) (l r : List UInt8) (e0 : Int) (hl : l.length ≤ 1000000) (w : World) (h : RR w X l r 0 0) :
    Calls Tryz.prog 67 #[.pointer (some ⟨X, 0, none⟩), .int .i64 e0] w (RfP X l (nameM e0 r) (fun n => .string (str n)) (.string (str [])) w) := by
  have HE := Lib.hid (rend_ok X l r w h)
  have HLL := Lib.hid (suf_len h.1)
  have HSUF := Lib.hid h.1
  clear h
  go_enter Tryz.func67, Tryz.ntmps67
  by_cases hr : r = []
  · subst hr
    go_wp2_with fail
    refine HE.out.mono ?_
    rintro e w2 ⟨rfl, hm, _⟩
    have HM := Lib.hid (hm rfl)
    clear hm
    dsimp only [List.isEmpty]
    go_wp2
    go_ret
    exact ⟨rfl, [], HM.out⟩
  have hie : r.isEmpty = false := by simpa using hr
  go_wp2_with fail
  refine HE.out.mono ?_
  rintro e w2 ⟨rfl, _, hm⟩
  have HM := Lib.hid (hm hr)
  clear hm
  rw [hie]
  obtain ⟨c0, c1, c2, c3⟩ := HM.out.1.cells
  have hsz := size_str l
  have hll := HLL.out
  have hx := ext_suf HSUF.out
  have hle : ((l.length - r.length : Nat) : Int) ≤ ((str l).size : Int) := by omega
  have hle2 : l.length - r.length ≤ (str l).size := by omega
  obtain ⟨n, hn⟩ : ∃ n, n = l.length - r.length := ⟨_, rfl⟩
  rw [← hn] at c1 hx hle hle2
  have HN := Lib.hid hn
  have C0 := Lib.hid (fun w1 (hb : Below w2.heap.size w2 w1) => (hb.cell (World.block_lt_of_cell? w2 _ c0)).trans c0)
  have C1 := Lib.hid (fun w1 (hb : Below w2.heap.size w2 w1) => (hb.cell (World.block_lt_of_cell? w2 _ c1)).trans c1)
  have HRN := Lib.hid (fun w => refName_any (str r) (by rw [size_str]; omega) w)
  have HR := Lib.hid hr
  have HSZ := Lib.hid hsz
  clear hn hll hsz c0 c1 c2 c3 hr
  go_upto_region 3 with fail
  refine wp_region_held_drew (S := (fun w1 => Below w2.heap.size w2 w1)) (by kernel_rfl) (by (try dsimp only); exact (Below.refl _ _).drew) (fun hHeld => ?_)
  generalize w2.drew = wd at hHeld ⊢
  refine wpAnyH_take (i := 0) (v := ?_) (by (simp only [List.getElem?_toArray, List.getElem?_cons_succ, List.getElem?_cons_zero]; rfl)) (by kernel_rfl) (by kernel_rfl) (by kernel_rfl) (by intro _ _ _ h; exact h) (Or.inl ⟨by rfl, ?_⟩) (by assumption) ?_
  rotate_left
  · (intro w hSw; (try dsimp only at hSw); go_simp; try (with_reducible rfl))
  simp only [Act.put, List.setIfInBounds_toArray, List.set_cons_zero, List.set_cons_succ]
  refine wpAnyH_take (i := 1) (v := ?_) (by (simp only [List.getElem?_toArray, List.getElem?_cons_succ, List.getElem?_cons_zero]; rfl)) (by kernel_rfl) (by kernel_rfl) (by kernel_rfl) (by intro _ _ _ h; exact h) (Or.inl ⟨by rfl, ?_⟩) (by assumption) ?_
  rotate_left
  · (intro w hSw; (try dsimp only at hSw); go_simp; try (with_reducible rfl))
  simp only [Act.put, List.setIfInBounds_toArray, List.set_cons_zero, List.set_cons_succ]
  refine wpAnyH_take (i := 2) (v := ?_) (by (simp only [List.getElem?_toArray, List.getElem?_cons_succ, List.getElem?_cons_zero]; rfl)) (by kernel_rfl) (by kernel_rfl) (by kernel_rfl) (by intro _ _ _ h; exact h) (Or.inl ⟨by rfl, ?_⟩) (by assumption) ?_
  rotate_left
  · (intro w hSw; (try dsimp only at hSw); go_simp; try (with_reducible rfl))
  simp only [Act.put, List.setIfInBounds_toArray, List.set_cons_zero, List.set_cons_succ]
  refine wpAnyH_take (i := 3) (v := ?_) (by (simp only [List.getElem?_toArray, List.getElem?_cons_succ, List.getElem?_cons_zero]; rfl)) (by kernel_rfl) (by kernel_rfl) (by kernel_rfl) (by intro _ _ _ h; exact h) (Or.inl ⟨by rfl, ?_⟩) (by assumption) ?_
  rotate_left
  · (intro w hSw; have q1 := C0.out w hSw; go_simp; try (with_reducible rfl))
  simp only [Act.put, List.setIfInBounds_toArray, List.set_cons_zero, List.set_cons_succ]
  refine wpAnyH_take (i := 4) (v := ?_) (by (simp only [List.getElem?_toArray, List.getElem?_cons_succ, List.getElem?_cons_zero]; rfl)) (by kernel_rfl) (by kernel_rfl) (by kernel_rfl) (by intro _ _ _ h; exact h) (Or.inl ⟨by rfl, ?_⟩) (by assumption) ?_
  rotate_left
  · (intro w hSw; (try dsimp only at hSw); go_simp; try (with_reducible rfl))
  simp only [Act.put, List.setIfInBounds_toArray, List.set_cons_zero, List.set_cons_succ]
  refine wpAnyH_take (i := 5) (v := ?_) (by (simp only [List.getElem?_toArray, List.getElem?_cons_succ, List.getElem?_cons_zero]; rfl)) (by kernel_rfl) (by kernel_rfl) (by kernel_rfl) (by intro _ _ _ h; exact h) (Or.inl ⟨by rfl, ?_⟩) (by assumption) ?_
  rotate_left
  · (intro w hSw; (try dsimp only at hSw); go_simp; try (with_reducible rfl))
  simp only [Act.put, List.setIfInBounds_toArray, List.set_cons_zero, List.set_cons_succ]
  refine wpAnyH_take (i := 6) (v := ?_) (by (simp only [List.getElem?_toArray, List.getElem?_cons_succ, List.getElem?_cons_zero]; rfl)) (by kernel_rfl) (by kernel_rfl) (by kernel_rfl) (by intro _ _ _ h; exact h) (Or.inl ⟨by rfl, ?_⟩) (by assumption) ?_
  rotate_left
  · (intro w hSw; (try dsimp only at hSw); go_simp; try (with_reducible rfl))
  simp only [Act.put, List.setIfInBounds_toArray, List.set_cons_zero, List.set_cons_succ]
  refine wpAnyH_take (i := 7) (v := ?_) (by (simp only [List.getElem?_toArray, List.getElem?_cons_succ, List.getElem?_cons_zero]; rfl)) (by kernel_rfl) (by kernel_rfl) (by kernel_rfl) (by intro _ _ _ h; exact h) (Or.inl ⟨by rfl, ?_⟩) (by assumption) ?_
  rotate_left
  · (intro w hSw; have q1 := C1.out w hSw; go_simp; try (with_reducible rfl))
  simp only [Act.put, List.setIfInBounds_toArray, List.set_cons_zero, List.set_cons_succ]
  refine wpAnyH_take (i := 8) (v := ?_) (by (simp only [List.getElem?_toArray, List.getElem?_cons_succ, List.getElem?_cons_zero]; rfl)) (by kernel_rfl) (by kernel_rfl) (by kernel_rfl) (by intro _ _ _ h; exact h) (Or.inl ⟨by rfl, ?_⟩) (by assumption) ?_
  rotate_left
  · (intro w hSw; (try dsimp only at hSw); go_simp; try (with_reducible rfl))
  simp only [Act.put, List.setIfInBounds_toArray, List.set_cons_zero, List.set_cons_succ]
  refine wpAnyH_ready (rs := [9]) (by kernel_rfl) (by simp) ?_
  refine AllReadyH.cons (by (simp only [List.getElem?_toArray, List.getElem?_cons_succ, List.getElem?_cons_zero]; rfl)) (fun K hK => ?_) AllReadyH.nil
  go_simp
  go_at_call 78; refine (HRN.out _).mono ?_; rintro e w6 ⟨m6, rfl, hn6, hw6⟩
  refine hK.out _ _ (by (try dsimp only); rw [hw6]; exact hHeld) (fun hHeld => ?_)
  clear hK K
  try simp only [Act.put, List.setIfInBounds_toArray, List.set_cons_zero, List.set_cons_succ]
  clear hw6
  refine wpAnyH_take (i := 10) (v := ?_) (by (simp only [List.getElem?_toArray, List.getElem?_cons_succ, List.getElem?_cons_zero]; rfl)) (by kernel_rfl) (by kernel_rfl) (by kernel_rfl) (by intro _ _ _ h; exact h) (Or.inl ⟨by rfl, ?_⟩) (by assumption) ?_
  rotate_left
  · (intro w hSw; (try dsimp only at hSw); go_simp; try (with_reducible rfl))
  simp only [Act.put, List.setIfInBounds_toArray, List.set_cons_zero, List.set_cons_succ]
  refine wpAnyH_done (by kernel_rfl) ?_ _
  have hr6 := HM.out.1.below hHeld
  have HM6 := Lib.hid (HM.out.trans (RM.below HM.out.1 hHeld))
  clear hHeld hx hle hle2
  have hnn := name_one hn6 (nameL_is r)
  have hnl := nameL_le r
  clear hn6
  subst hnn
  generalize hq : nameL r = m at hnl
  have HQ := Lib.hid hq
  clear hq
  obtain ⟨c0, c1, c2, c3⟩ := hr6.cells
  have f1 := hr6.frozen 1
  have hrow := hr6.2
  rw [← HN.out] at c1 hrow
  have hnI : (n : Int) ≤ 1000000 := by have := HN.out; omega
  have hmI : (m : Int) ≤ 1000000 := by have := HLL.out; omega
  by_cases h0 : m = 0
  · have HMM := Lib.hid (show nameM e0 r = .bad e0 r by unfold nameM; rw [if_neg HR.out, if_pos (by rw [HQ.out]; exact h0)])
    subst h0
    have HF := Lib.hid (rfail_yes X l r 0 e0 (n : Int) w6 hr6)
    clear hr6 hrow
    go_wp2_with fail
    refine HF.out.mono ?_
    rintro e w7 ⟨rfl, hm7⟩
    have HM7 := Lib.hid (HM6.out.trans hm7)
    clear hm7
    go_wp2
    go_ret
    rw [HMM.out]
    exact ⟨rfl, r, by rw [← HN.out]; exact HM7.out⟩
  · have HMM := Lib.hid (show nameM e0 r = .ok (r.take m) (r.drop m) by unfold nameM; rw [if_neg HR.out, if_neg (by rw [HQ.out]; exact h0), HQ.out])
    have hne : ((m : Int) == 0) = false := by rw [beq_eq_false_iff_ne]; omega
    have hsuf : r.drop m <:+ l := (List.drop_suffix m r).trans HSUF.out
    have hp := RM.put hr6 hsuf ((n : Int) + (m : Int)) (by have h1 := HN.out; have h2 := HLL.out; rw [h1, List.length_drop]; omega)
    have HP := Lib.hid hp
    clear hr6 h0 hrow hsuf
    go_upto_region 8 with fail
    generalize w6.setCell ⟨X, 1, none⟩ (.int .i64 ((n : Int) + (m : Int))) = w7 at hp HP ⊢
    clear c0 c1 c2 c3 f1
    obtain ⟨c0, c1, c2, c3⟩ := hp.1.cells
    have he7 : ((l.length - (r.drop m).length : Nat) : Int) = (n : Int) + (m : Int) := by have h1 := HN.out; have h2 := HLL.out; rw [h1, List.length_drop]; omega
    rw [he7] at c1
    have hsl : ∀ w, (Instr.slice 9 (.string (str l)) (some (.int .i64 (n : Int))) (some (.int .i64 ((n : Int) + (m : Int)))) none).run Tryz.prog w = .ok (.string (str (r.take m))) w := fun w => by
      have h1 := HN.out
      have h2 := HLL.out
      have h3 := HSZ.out
      rw [run_slice_string w 9 _ _ _ _ _ Tryz.underlying9 (by omega) (by omega) (by omega)]
      have : (str l).extract (n : Int).toNat ((n : Int) + (m : Int)).toNat = str (r.take m) := by
        rw [ext_str, toList_str, show ((n : Int) + (m : Int)).toNat = n + m by omega, Int.toNat_natCast, List.drop_take, h1, suf_drop HSUF.out]
        congr 2
        omega
      rw [this]
    have hw1 : (n : Int) + (m : Int) - (m : Int) = (n : Int) := by omega
    clear hp he7 hnl
    go_quiet (fail)
    go_wp2
    go_ret
    rw [HMM.out]
    exact ⟨rfl, HM6.out.trans (HP.out.trans (RM.drew HP.out.1 _))⟩
end
/-! Rf2c -/
section
open Go.RowKit

/-- what stands ahead of r' and behind r is a text -/
theorem rcut_mid {l r acc r' : List UInt8} (h : r <:+ l) (ha : acc ++ r' = r) : (str l).extract (l.length - r.length) (l.length - r'.length) = str acc := by
  have hl := suf_len h
  have hr : r.length = acc.length + r'.length := by rw [← ha, List.length_append]
  have he : l.length - r'.length - (l.length - r.length) = acc.length := by omega
  rw [ext_str, toList_str, List.drop_take, suf_drop h, he, ← ha, List.take_left]
set_option maxRecDepth 100000 in
set_option maxHeartbeats 4000000 in
theorem rplain_at (X : Nat) (l r back : List UInt8) (n : Nat) (hn : n ≤ r.length) (hbk : back.length ≤ 100) (hbn : back.isPrefixOf [] = false) (hl : l.length ≤ 1000000) (w : World) (h : RR w X l r 0 0) :
    Calls Tryz.prog 64 #[.pointer (some ⟨X, 0, none⟩), .int .i64 (n : Int), .string (str back)] w (RfP X l (betM back [] (r.drop n)) (fun t => .string (str t)) (.string (str [])) w) := by
  have hsuf0 : r.drop n <:+ l := (List.drop_suffix n r).trans h.1
  have HSUF0 := Lib.hid hsuf0
  have hll := suf_len h.1
  have HLL := Lib.hid hll
  have HN := Lib.hid hn
  obtain ⟨c0, c1, c2, c3⟩ := h.cells
  have f1 := h.frozen 1
  have hsz := size_str l
  have HSZ := Lib.hid hsz
  have hz : ((l.length - r.length : Nat) : Int) + (n : Int) = ((l.length - (r.drop n).length : Nat) : Int) := by rw [List.length_drop]; omega
  have hp := RM.put h hsuf0 (((l.length - r.length : Nat) : Int) + (n : Int)) hz
  have HP := Lib.hid hp
  have hb1 : ((l.length - r.length : Nat) : Int) ≤ 1000000 := by omega
  have hb2 : (n : Int) ≤ 1000000 := by omega
  clear hll hn h hsuf0 hsz
  obtain ⟨m, hm⟩ : ∃ m, m = l.length - (r.drop n).length := ⟨_, rfl⟩
  clear hz
  generalize l.length - r.length = n0 at c1 hp HP hb1
  have HM := Lib.hid hm
  go_enter Tryz.func64, Tryz.ntmps64
  go_upto_region 2 with fail
  generalize w.setCell ⟨X, 1, none⟩ (.int .i64 ((n0 : Int) + (n : Int))) = w1 at hp HP ⊢
  clear c0 c1 c2 c3 f1
  obtain ⟨c0, c1, c2, c3⟩ := hp.1.cells
  rw [← hm] at c1
  clear hp hm hb1 hb2
  go_wp2_with fail
  clear c0 c1 c2 c3
  go_loopw [] (fun wr => ∃ acc r', betM back acc r' = betM back [] (r.drop n) ∧ acc ++ r' = r.drop n ∧ RM X l r' 0 0 w wr) (fun wr => l.length - offR X wr)
  case atStart => exact ⟨[], r.drop n, rfl, rfl, HP.out⟩
  case round =>
    obtain ⟨acc, r', hbet, hacc, hmw⟩ := hrel
    have HBET := Lib.hid hbet
    have HACC := Lib.hid hacc
    have HMW := Lib.hid hmw
    have HLL' := Lib.hid (suf_len hmw.1.1)
    have HBG := Lib.hid (rbegins_at X l r' back 0 0 hbk hl wr hmw.1)
    have HOFF := Lib.hid hmw.1.off
    clear hbet hacc hmw
    go_wp2_with fail
    refine HBG.out.mono ?_
    rintro e w2 ⟨rfl, hm2⟩
    have HM2 := Lib.hid (HMW.out.trans hm2)
    clear hm2
    generalize hq : back.isPrefixOf r' = q
    have HQ := Lib.hid hq
    clear hq
    cases q with
    | true =>
      have hpre := List.isPrefixOf_iff_prefix.1 HQ.out
      have hble := hpre.length_le
      have HFIN := Lib.hid (show betM back [] (r.drop n) = .ok acc (r'.drop back.length) by
        rw [← HBET.out]
        cases r' with
        | nil => rw [hbn] at HQ; exact absurd HQ.out (by decide)
        | cons c r' => rw [betM, if_pos HQ.out])
      obtain ⟨c0, c1, c2, c3⟩ := HM2.out.1.cells
      have hcm := rcut_mid HSUF0.out HACC.out
      have hll := HLL'.out
      have hal : (r.drop n).length = acc.length + r'.length := by rw [← HACC.out, List.length_append]
      have hdl := suf_len HSUF0.out
      have h3 := HSZ.out
      have hmm := HM.out
      rw [← hmm] at hcm
      obtain ⟨k, hk⟩ : ∃ k, k = l.length - r'.length := ⟨_, rfl⟩
      rw [← hk] at c1 hcm
      have HK := Lib.hid hk
      have hmk : m ≤ k := by omega
      have hks : k ≤ (str l).size := by omega
      have hsl : ∀ w, (Instr.slice 9 (.string (str l)) (some (.int .i64 (m : Int))) (some (.int .i64 (k : Int))) none).run Tryz.prog w = .ok (.string (str acc)) w := fun w => by
        rw [run_slice_string w 9 _ _ _ _ _ Tryz.underlying9 (by omega) (by omega) (by omega), Int.toNat_natCast, Int.toNat_natCast, hcm]
      have hsuf2 : r'.drop back.length <:+ l := (List.drop_suffix _ r').trans HM2.out.1.1
      have HSUF2 := Lib.hid hsuf2
      have HPZ := Lib.hid (show (k : Int) + ((str back).size : Int) = ((l.length - (r'.drop back.length).length : Nat) : Int) by
        rw [List.length_drop, size_str, hk]; omega)
      have hkI : (k : Int) ≤ 1000000 := by omega
      have hbI : ((str back).size : Int) ≤ 100 := by rw [size_str]; omega
      clear hpre hble hcm hll hal hdl h3 hmm hk hmk hks hsuf2
      go_upto_region 4 with fail
      go_quiet (fail)
      rename_i nq
      have hm3 := RM.drew HM2.out.1 nq
      have HM3 := Lib.hid (HM2.out.trans hm3)
      generalize w2.drewN nq = w3 at hm3 HM3 ⊢
      clear c0 c1 c2 c3 hsl
      obtain ⟨c0, c1, c2, c3⟩ := hm3.1.cells
      rw [← HK.out] at c1
      have f1 := hm3.1.frozen 1
      have HP4 := Lib.hid (RM.put hm3.1 HSUF2.out ((k : Int) + ((str back).size : Int)) HPZ.out)
      clear hm3
      go_wp2
      go_ret
      rw [HFIN.out]
      exact ⟨rfl, HM3.out.trans HP4.out⟩
    | false =>
      cases r' with
      | nil =>
        have HE := Lib.hid (rend_ok X l [] w2 HM2.out.1)
        have HFIN := Lib.hid (show betM back [] (r.drop n) = .bad 13 [] by rw [← HBET.out, betM, if_neg (by rw [HQ.out]; decide)])
        go_wp2_with fail
        refine HE.out.mono ?_
        rintro e w3 ⟨rfl, hm3, _⟩
        have HM3 := Lib.hid (HM2.out.trans (hm3 rfl))
        clear hm3
        dsimp only [List.isEmpty]
        go_wp2
        go_ret
        rw [HFIN.out]
        exact ⟨rfl, [], HM3.out⟩
      | cons c r' =>
        have HE := Lib.hid (rend_ok X l (c :: r') w2 HM2.out.1)
        go_wp2_with fail
        refine HE.out.mono ?_
        rintro e w3 ⟨rfl, _, hm3⟩
        have HM3 := Lib.hid (HM2.out.trans (hm3 (by simp)))
        clear hm3
        dsimp only [List.isEmpty]
        obtain ⟨c0, c1, c2, c3⟩ := HM3.out.1.cells
        have hi := fun w => bidx2 (str l) (l.length - (c :: r').length) c (by rw [toList_str]; exact suf_at HM3.out.1.1) w
        have hll := HLL'.out
        have hsz := HSZ.out
        have hlt : l.length - (c :: r').length < (str l).size := by rw [hsz]; simp at hll ⊢; omega
        obtain ⟨k, hk⟩ : ∃ k, k = l.length - (c :: r').length := ⟨_, rfl⟩
        rw [← hk] at c1 hi hlt
        have HK := Lib.hid hk
        have C0 := Lib.hid (fun w1 (hb : Below w3.heap.size w3 w1) => (hb.cell (World.block_lt_of_cell? w3 _ c0)).trans c0)
        have C1 := Lib.hid (fun w1 (hb : Below w3.heap.size w3 w1) => (hb.cell (World.block_lt_of_cell? w3 _ c1)).trans c1)
        generalize htx : tx c = b
        have HTX := Lib.hid htx
        have HIS := Lib.hid (fun w => is_at (c.toNat : Int) 16 b (by decide) (by decide) (by rw [(cls_all _).2.2.2.2]; exact htx) w)
        have hkI : (k : Int) ≤ 1000000 := by omega
        clear hll hsz hk htx c0 c1 c2 c3
        go_upto_region 9 with fail
        refine wp_region_held_drew (S := (fun w1 => Below w3.heap.size w3 w1)) (by kernel_rfl) (by (try dsimp only); exact (Below.refl _ _).drew) (fun hHeld => ?_)
        generalize w3.drew = wd at hHeld ⊢
        refine wpAnyH_take (i := 0) (v := ?_) (by (simp only [List.getElem?_toArray, List.getElem?_cons_succ, List.getElem?_cons_zero]; rfl)) (by kernel_rfl) (by kernel_rfl) (by kernel_rfl) (by intro _ _ _ h; exact h) (Or.inl ⟨by rfl, ?_⟩) (by assumption) ?_
        rotate_left
        · (intro w hSw; (try dsimp only at hSw); go_simp; try (with_reducible rfl))
        simp only [Act.put, List.setIfInBounds_toArray, List.set_cons_zero, List.set_cons_succ]
        refine wpAnyH_take (i := 1) (v := ?_) (by (simp only [List.getElem?_toArray, List.getElem?_cons_succ, List.getElem?_cons_zero]; rfl)) (by kernel_rfl) (by kernel_rfl) (by kernel_rfl) (by intro _ _ _ h; exact h) (Or.inl ⟨by rfl, ?_⟩) (by assumption) ?_
        rotate_left
        · (intro w hSw; (try dsimp only at hSw); go_simp; try (with_reducible rfl))
        simp only [Act.put, List.setIfInBounds_toArray, List.set_cons_zero, List.set_cons_succ]
        refine wpAnyH_take (i := 2) (v := ?_) (by (simp only [List.getElem?_toArray, List.getElem?_cons_succ, List.getElem?_cons_zero]; rfl)) (by kernel_rfl) (by kernel_rfl) (by kernel_rfl) (by intro _ _ _ h; exact h) (Or.inl ⟨by rfl, ?_⟩) (by assumption) ?_
        rotate_left
        · (intro w hSw; (try dsimp only at hSw); go_simp; try (with_reducible rfl))
        simp only [Act.put, List.setIfInBounds_toArray, List.set_cons_zero, List.set_cons_succ]
        refine wpAnyH_take (i := 3) (v := ?_) (by (simp only [List.getElem?_toArray, List.getElem?_cons_succ, List.getElem?_cons_zero]; rfl)) (by kernel_rfl) (by kernel_rfl) (by kernel_rfl) (by intro _ _ _ h; exact h) (Or.inl ⟨by rfl, ?_⟩) (by assumption) ?_
        rotate_left
        · (intro w hSw; have q1 := C0.out w hSw; go_simp; try (with_reducible rfl))
        simp only [Act.put, List.setIfInBounds_toArray, List.set_cons_zero, List.set_cons_succ]
        refine wpAnyH_take (i := 4) (v := ?_) (by (simp only [List.getElem?_toArray, List.getElem?_cons_succ, List.getElem?_cons_zero]; rfl)) (by kernel_rfl) (by kernel_rfl) (by kernel_rfl) (by intro _ _ _ h; exact h) (Or.inl ⟨by rfl, ?_⟩) (by assumption) ?_
        rotate_left
        · (intro w hSw; (try dsimp only at hSw); go_simp; try (with_reducible rfl))
        simp only [Act.put, List.setIfInBounds_toArray, List.set_cons_zero, List.set_cons_succ]
        refine wpAnyH_take (i := 5) (v := ?_) (by (simp only [List.getElem?_toArray, List.getElem?_cons_succ, List.getElem?_cons_zero]; rfl)) (by kernel_rfl) (by kernel_rfl) (by kernel_rfl) (by intro _ _ _ h; exact h) (Or.inl ⟨by rfl, ?_⟩) (by assumption) ?_
        rotate_left
        · (intro w hSw; (try dsimp only at hSw); go_simp; try (with_reducible rfl))
        simp only [Act.put, List.setIfInBounds_toArray, List.set_cons_zero, List.set_cons_succ]
        refine wpAnyH_take (i := 6) (v := ?_) (by (simp only [List.getElem?_toArray, List.getElem?_cons_succ, List.getElem?_cons_zero]; rfl)) (by kernel_rfl) (by kernel_rfl) (by kernel_rfl) (by intro _ _ _ h; exact h) (Or.inl ⟨by rfl, ?_⟩) (by assumption) ?_
        rotate_left
        · (intro w hSw; (try dsimp only at hSw); go_simp; try (with_reducible rfl))
        simp only [Act.put, List.setIfInBounds_toArray, List.set_cons_zero, List.set_cons_succ]
        refine wpAnyH_take (i := 7) (v := ?_) (by (simp only [List.getElem?_toArray, List.getElem?_cons_succ, List.getElem?_cons_zero]; rfl)) (by kernel_rfl) (by kernel_rfl) (by kernel_rfl) (by intro _ _ _ h; exact h) (Or.inl ⟨by rfl, ?_⟩) (by assumption) ?_
        rotate_left
        · (intro w hSw; have q1 := C1.out w hSw; go_simp; try (with_reducible rfl))
        simp only [Act.put, List.setIfInBounds_toArray, List.set_cons_zero, List.set_cons_succ]
        refine wpAnyH_take (i := 8) (v := ?_) (by (simp only [List.getElem?_toArray, List.getElem?_cons_succ, List.getElem?_cons_zero]; rfl)) (by kernel_rfl) (by kernel_rfl) (by kernel_rfl) (by intro _ _ _ h; exact h) (Or.inl ⟨by rfl, ?_⟩) (by assumption) ?_
        rotate_left
        · (intro w hSw; (try dsimp only at hSw); go_simp; try (with_reducible rfl))
        simp only [Act.put, List.setIfInBounds_toArray, List.set_cons_zero, List.set_cons_succ]
        refine wpAnyH_ready (rs := [9]) (by kernel_rfl) (by simp) ?_
        refine AllReadyH.cons (by (simp only [List.getElem?_toArray, List.getElem?_cons_succ, List.getElem?_cons_zero]; rfl)) (fun K hK => ?_) AllReadyH.nil
        go_simp
        go_at_call 48; refine (HIS.out _).mono ?_; rintro e w6 ⟨rfl, hw6⟩
        refine hK.out _ _ (by (try dsimp only); rw [hw6]; exact hHeld) (fun hHeld => ?_)
        clear hK K
        try simp only [Act.put, List.setIfInBounds_toArray, List.set_cons_zero, List.set_cons_succ]
        clear hw6
        refine wpAnyH_take (i := 10) (v := ?_) (by (simp only [List.getElem?_toArray, List.getElem?_cons_succ, List.getElem?_cons_zero]; rfl)) (by kernel_rfl) (by kernel_rfl) (by kernel_rfl) (by intro _ _ _ h; exact h) (Or.inl ⟨by rfl, ?_⟩) (by assumption) ?_
        rotate_left
        · (intro w hSw; (try dsimp only at hSw); go_simp; try (with_reducible rfl))
        simp only [Act.put, List.setIfInBounds_toArray, List.set_cons_zero, List.set_cons_succ]
        refine wpAnyH_done (by kernel_rfl) ?_ _
        have hr6 := HM3.out.1.below hHeld
        have HM6 := Lib.hid (HM3.out.trans (RM.below HM3.out.1 hHeld))
        clear hHeld hi
        obtain ⟨c0, c1, c2, c3⟩ := hr6.cells
        rw [← HK.out] at c1
        have f1 := hr6.frozen 1
        clear hlt
        cases b with
        | false =>
          have HFIN := Lib.hid (show betM back [] (r.drop n) = .bad 10 (c :: r') by rw [← HBET.out, betM, if_neg (by rw [HQ.out]; decide), if_neg (by rw [HTX.out]; decide)])
          have HF := Lib.hid (rfail_yes X l (c :: r') 0 10 (k : Int) w6 hr6)
          clear hr6
          go_wp2_with fail
          refine HF.out.mono ?_
          rintro e w7 ⟨rfl, hm7⟩
          have HM7 := Lib.hid (HM6.out.trans hm7)
          clear hm7
          go_wp2
          go_ret
          rw [HFIN.out]
          exact ⟨rfl, c :: r', by rw [← HK.out]; exact HM7.out⟩
        | true =>
          have hsuf : r' <:+ l := (List.suffix_cons c r').trans hr6.1
          have HP2 := Lib.hid (RM.put hr6 hsuf ((k : Int) + 1) (by
            have h1 := HK.out
            have h2 := HLL'.out
            rw [h1]; simp at h2 ⊢; omega))
          have HO := Lib.hid (show l.length - offR X (w6.setCell ⟨X, 1, none⟩ (.int .i64 ((k : Int) + 1))) < l.length - offR X wr by
            rw [HP2.out.1.off, HOFF.out]
            have h2 := HLL'.out
            simp at h2 ⊢
            omega)
          clear hsuf hr6
          go_wp2
          go_roundw
          case rel => exact ⟨acc ++ [c], r', by rw [← HBET.out]; conv => rhs; rw [betM, if_neg (by rw [HQ.out]; decide), if_pos HTX.out], by rw [← HACC.out]; simp, HM6.out.trans HP2.out⟩
          case measure => exact HO.out
end
/-! Rf2d -/
section
open Go.RowKit

theorem one_str {l r : List UInt8} {c : UInt8} (h : c :: r <:+ l) : (str l).extract (l.length - (c :: r).length) (l.length - (c :: r).length + 1) = str [c] := by
  rw [ext_str, toList_str, List.drop_take, suf_drop h, Nat.add_sub_cancel_left]
  rfl
set_option maxRecDepth 100000 in
set_option maxHeartbeats 8000000 in
theorem rletters_at (X : Nat) (l r : List UInt8) (stop : UInt8) (hl : l.length ≤ 1000000) (w : World) (h : RR w X l r 0 0) :
    Calls Tryz.prog 66 #[.pointer (some ⟨X, 0, none⟩), .int .u8 (stop.toNat : Int)] w (RfP X l (letM stop true (r.length + 1) [] r) (fun t => .string (str t)) (.string (str [])) w) := by
  have H := Lib.hid h
  have HLL := Lib.hid (suf_len h.1)
  have HSZ := Lib.hid (size_str l)
  clear h
  go_enter Tryz.func66, Tryz.ntmps66
  go_wp2_with fail
  go_loopw [5] (fun s wr => ∃ acc r' f, s = .string (str acc) ∧ r'.length < f ∧ letM stop true f acc r' = letM stop true (r.length + 1) [] r ∧ acc.length + 4 * r'.length ≤ 4 * r.length ∧ RM X l r' 0 0 w wr) (fun _ wr => l.length - offR X wr)
  case atStart => exact ⟨[], r, r.length + 1, rfl, by omega, rfl, by simp, RM.refl H.out⟩
  case round =>
    obtain ⟨acc, r', f, rfl, hf, hmod, hacc, hmw⟩ := hrel
    obtain ⟨g, hg⟩ : ∃ g, f = g + 1 := ⟨f - 1, by omega⟩
    subst hg
    have HG := Lib.hid hf
    have HMOD := Lib.hid hmod
    have HACC := Lib.hid hacc
    have HMW := Lib.hid hmw
    have HLL' := Lib.hid (suf_len hmw.1.1)
    have HOFF := Lib.hid hmw.1.off
    obtain ⟨c0, c1, c2, c3⟩ := hmw.1.cells
    clear hf hmod hacc hmw
    cases r' with
    | nil =>
      have HFIN := Lib.hid (show letM stop true (r.length + 1) [] r = .ok acc [] by rw [← HMOD.out]; rfl)
      have hsz := HSZ.out
      have hn : decide (((l.length - ([] : List UInt8).length : Nat) : Int) < ((str l).size : Int)) = false := decide_eq_false (by rw [hsz]; simp)
      have hnN : decide (l.length - ([] : List UInt8).length < (str l).size) = false := decide_eq_false (by rw [hsz]; simp)
      generalize l.length - ([] : List UInt8).length = n at c1 hn hnN
      clear hsz
      go_upto_region 2 with fail
      go_quiet (fail)
      go_wp2
      go_ret
      rw [HFIN.out]
      exact ⟨rfl, HMW.out.trans (RM.drew HMW.out.1 _)⟩
    | cons c r' =>
      have hsz := HSZ.out
      have hll := HLL'.out
      have hn : decide (((l.length - (c :: r').length : Nat) : Int) < ((str l).size : Int)) = true := decide_eq_true (by rw [hsz]; simp at hll ⊢; omega)
      have hi := fun w => bidx2 (str l) (l.length - (c :: r').length) c (by rw [toList_str]; exact suf_at HMW.out.1.1) w
      have hlt : l.length - (c :: r').length < (str l).size := by rw [hsz]; simp at hll ⊢; omega
      have hx := ext_suf HMW.out.1.1
      have hx1 := one_str HMW.out.1.1
      obtain ⟨k, hk⟩ : ∃ k, k = l.length - (c :: r').length := ⟨_, rfl⟩
      rw [← hk] at c1 hn hi hlt hx hx1
      have HK := Lib.hid hk
      have hkI : (k : Int) ≤ 1000000 := by omega
      have HX := Lib.hid hx
      have HX1 := Lib.hid hx1
      have HI := Lib.hid hi
      have hltI : (k : Int) < ((str l).size : Int) := by omega
      have hszI : ((str l).size : Int) ≤ 1000000 := by omega
      clear hk hsz hll hx hx1
      by_cases hst : c = stop
      · have hne : ((c.toNat : Int) != (stop.toNat : Int)) = false := by rw [hst]; simp
        have HFIN := Lib.hid (show letM stop true (r.length + 1) [] r = .ok acc (c :: r') by rw [← HMOD.out, hst]; exact let_stop)
        clear hst
        go_upto_region 2 with fail
        go_quiet (fail)
        go_wp2
        go_ret
        rw [HFIN.out]
        exact ⟨rfl, HMW.out.trans (RM.drew HMW.out.1 _)⟩
      have hne : ((c.toNat : Int) != (stop.toNat : Int)) = true := by rw [bne, u8_ne2 hst]; rfl
      have HNS := Lib.hid hst
      clear hst
      go_upto_region 2 with fail
      go_quiet (fail)
      rename_i nq
      have hm2 := RM.drew HMW.out.1 nq
      have HM2 := Lib.hid (HMW.out.trans hm2)
      generalize wr.drewN nq = w2 at hm2 HM2 ⊢
      clear c0 c1 c2 c3 hne hn
      obtain ⟨c0, c1, c2, c3⟩ := hm2.1.cells
      rw [← HK.out] at c1
      clear hm2
      go_upto_region 3 with fail
      go_region
      have hm3 := RM.drew0 HM2.out.1
      have HM3 := Lib.hid (HM2.out.trans hm3)
      go_upto_region 4 with fail
      generalize w2.drew = w3 at hm3 HM3 ⊢
      clear c0 c1 c2 c3
      obtain ⟨c0, c1, c2, c3⟩ := hm3.1.cells
      rw [← HK.out] at c1
      clear hm3 hi
      have HACL := Lib.hid (show acc.length ≤ 10000000 by have h2 := HACC.out; have h3 := HLL.out; omega)
      by_cases h38 : c = 38
      · have h38b : ((c.toNat : Int) == 38) = true := by rw [h38]; rfl
        obtain ⟨⟨x, n, y⟩, hxy⟩ : ∃ z, refS (c :: r') = z := ⟨_, rfl⟩
        have HMM := Lib.hid (show letM stop true (r.length + 1) [] r = if y = 0 then letM stop true g (acc ++ x.data.toList) ((c :: r').drop n) else .bad (errno y) (c :: r') by rw [← HMOD.out]; exact let_ref HNS.out h38 hxy)
        have HRF := Lib.hid (fun w => show Calls Tryz.prog 92 #[.string (str (c :: r'))] w fun e w' => e = .returned (.tuple #[.string x, .int .i64 (n : Int), .int .i64 (y : Int)]) ∧ Below w.heap.size w w' from by
          have hh := refRef_any (str (c :: r')) (by rw [size_str]; have := HLL'.out; omega) w
          rw [toList_str, hxy] at hh
          exact hh)
        have HXY := Lib.hid hxy
        have hx := HX.out
        have hle2 : k ≤ (str l).size := by omega
        have hleI : (k : Int) ≤ ((str l).size : Int) := by omega
        have C0 := Lib.hid (fun w1 (hb : Below w3.heap.size w3 w1) => (hb.cell (World.block_lt_of_cell? w3 _ c0)).trans c0)
        have C1 := Lib.hid (fun w1 (hb : Below w3.heap.size w3 w1) => (hb.cell (World.block_lt_of_cell? w3 _ c1)).trans c1)
        clear h38 hxy c0 c1 c2 c3
        go_upto_region 5 with fail
        refine wp_region_held_drew (S := (fun w1 => Below w3.heap.size w3 w1)) (by kernel_rfl) (by (try dsimp only); exact (Below.refl _ _).drew) (fun hHeld => ?_)
        generalize w3.drew = wd at hHeld ⊢
        refine wpAnyH_take (i := 0) (v := ?_) (by (simp only [List.getElem?_toArray, List.getElem?_cons_succ, List.getElem?_cons_zero]; rfl)) (by kernel_rfl) (by kernel_rfl) (by kernel_rfl) (by intro _ _ _ h; exact h) (Or.inl ⟨by rfl, ?_⟩) (by assumption) ?_
        rotate_left
        · (intro w hSw; (try dsimp only at hSw); go_simp; try (with_reducible rfl))
        simp only [Act.put, List.setIfInBounds_toArray, List.set_cons_zero, List.set_cons_succ]
        refine wpAnyH_take (i := 1) (v := ?_) (by (simp only [List.getElem?_toArray, List.getElem?_cons_succ, List.getElem?_cons_zero]; rfl)) (by kernel_rfl) (by kernel_rfl) (by kernel_rfl) (by intro _ _ _ h; exact h) (Or.inl ⟨by rfl, ?_⟩) (by assumption) ?_
        rotate_left
        · (intro w hSw; (try dsimp only at hSw); go_simp; try (with_reducible rfl))
        simp only [Act.put, List.setIfInBounds_toArray, List.set_cons_zero, List.set_cons_succ]
        refine wpAnyH_take (i := 2) (v := ?_) (by (simp only [List.getElem?_toArray, List.getElem?_cons_succ, List.getElem?_cons_zero]; rfl)) (by kernel_rfl) (by kernel_rfl) (by kernel_rfl) (by intro _ _ _ h; exact h) (Or.inl ⟨by rfl, ?_⟩) (by assumption) ?_
        rotate_left
        · (intro w hSw; (try dsimp only at hSw); go_simp; try (with_reducible rfl))
        simp only [Act.put, List.setIfInBounds_toArray, List.set_cons_zero, List.set_cons_succ]
        refine wpAnyH_take (i := 3) (v := ?_) (by (simp only [List.getElem?_toArray, List.getElem?_cons_succ, List.getElem?_cons_zero]; rfl)) (by kernel_rfl) (by kernel_rfl) (by kernel_rfl) (by intro _ _ _ h; exact h) (Or.inl ⟨by rfl, ?_⟩) (by assumption) ?_
        rotate_left
        · (intro w hSw; have q1 := C0.out w hSw; go_simp; try (with_reducible rfl))
        simp only [Act.put, List.setIfInBounds_toArray, List.set_cons_zero, List.set_cons_succ]
        refine wpAnyH_take (i := 4) (v := ?_) (by (simp only [List.getElem?_toArray, List.getElem?_cons_succ, List.getElem?_cons_zero]; rfl)) (by kernel_rfl) (by kernel_rfl) (by kernel_rfl) (by intro _ _ _ h; exact h) (Or.inl ⟨by rfl, ?_⟩) (by assumption) ?_
        rotate_left
        · (intro w hSw; (try dsimp only at hSw); go_simp; try (with_reducible rfl))
        simp only [Act.put, List.setIfInBounds_toArray, List.set_cons_zero, List.set_cons_succ]
        refine wpAnyH_take (i := 5) (v := ?_) (by (simp only [List.getElem?_toArray, List.getElem?_cons_succ, List.getElem?_cons_zero]; rfl)) (by kernel_rfl) (by kernel_rfl) (by kernel_rfl) (by intro _ _ _ h; exact h) (Or.inl ⟨by rfl, ?_⟩) (by assumption) ?_
        rotate_left
        · (intro w hSw; (try dsimp only at hSw); go_simp; try (with_reducible rfl))
        simp only [Act.put, List.setIfInBounds_toArray, List.set_cons_zero, List.set_cons_succ]
        refine wpAnyH_take (i := 6) (v := ?_) (by (simp only [List.getElem?_toArray, List.getElem?_cons_succ, List.getElem?_cons_zero]; rfl)) (by kernel_rfl) (by kernel_rfl) (by kernel_rfl) (by intro _ _ _ h; exact h) (Or.inl ⟨by rfl, ?_⟩) (by assumption) ?_
        rotate_left
        · (intro w hSw; (try dsimp only at hSw); go_simp; try (with_reducible rfl))
        simp only [Act.put, List.setIfInBounds_toArray, List.set_cons_zero, List.set_cons_succ]
        refine wpAnyH_take (i := 7) (v := ?_) (by (simp only [List.getElem?_toArray, List.getElem?_cons_succ, List.getElem?_cons_zero]; rfl)) (by kernel_rfl) (by kernel_rfl) (by kernel_rfl) (by intro _ _ _ h; exact h) (Or.inl ⟨by rfl, ?_⟩) (by assumption) ?_
        rotate_left
        · (intro w hSw; have q1 := C1.out w hSw; go_simp; try (with_reducible rfl))
        simp only [Act.put, List.setIfInBounds_toArray, List.set_cons_zero, List.set_cons_succ]
        refine wpAnyH_take (i := 8) (v := ?_) (by (simp only [List.getElem?_toArray, List.getElem?_cons_succ, List.getElem?_cons_zero]; rfl)) (by kernel_rfl) (by kernel_rfl) (by kernel_rfl) (by intro _ _ _ h; exact h) (Or.inl ⟨by rfl, ?_⟩) (by assumption) ?_
        rotate_left
        · (intro w hSw; (try dsimp only at hSw); go_simp; try (with_reducible rfl))
        simp only [Act.put, List.setIfInBounds_toArray, List.set_cons_zero, List.set_cons_succ]
        refine wpAnyH_ready (rs := [9]) (by kernel_rfl) (by simp) ?_
        refine AllReadyH.cons (by (simp only [List.getElem?_toArray, List.getElem?_cons_succ, List.getElem?_cons_zero]; rfl)) (fun K hK => ?_) AllReadyH.nil
        go_simp
        go_at_call 92; refine (HRF.out _).mono ?_; rintro e w6 ⟨rfl, hb6⟩
        refine hK.out _ _ (by (try dsimp only); exact hHeld.trans (hb6.mono hHeld.size)) (fun hHeld => ?_)
        clear hK K
        try simp only [Act.put, List.setIfInBounds_toArray, List.set_cons_zero, List.set_cons_succ]
        clear hb6
        refine wpAnyH_take (i := 10) (v := ?_) (by (simp only [List.getElem?_toArray, List.getElem?_cons_succ, List.getElem?_cons_zero]; rfl)) (by kernel_rfl) (by kernel_rfl) (by kernel_rfl) (by intro _ _ _ h; exact h) (Or.inl ⟨by rfl, ?_⟩) (by assumption) ?_
        rotate_left
        · (intro w hSw; (try dsimp only at hSw); go_simp; try (with_reducible rfl))
        simp only [Act.put, List.setIfInBounds_toArray, List.set_cons_zero, List.set_cons_succ]
        refine wpAnyH_take (i := 11) (v := ?_) (by (simp only [List.getElem?_toArray, List.getElem?_cons_succ, List.getElem?_cons_zero]; rfl)) (by kernel_rfl) (by kernel_rfl) (by kernel_rfl) (by intro _ _ _ h; exact h) (Or.inl ⟨by rfl, ?_⟩) (by assumption) ?_
        rotate_left
        · (intro w hSw; (try dsimp only at hSw); go_simp; try (with_reducible rfl))
        simp only [Act.put, List.setIfInBounds_toArray, List.set_cons_zero, List.set_cons_succ]
        refine wpAnyH_take (i := 12) (v := ?_) (by (simp only [List.getElem?_toArray, List.getElem?_cons_succ, List.getElem?_cons_zero]; rfl)) (by kernel_rfl) (by kernel_rfl) (by kernel_rfl) (by intro _ _ _ h; exact h) (Or.inl ⟨by rfl, ?_⟩) (by assumption) ?_
        rotate_left
        · (intro w hSw; (try dsimp only at hSw); go_simp; try (with_reducible rfl))
        simp only [Act.put, List.setIfInBounds_toArray, List.set_cons_zero, List.set_cons_succ]
        refine wpAnyH_take (i := 13) (v := ?_) (by (simp only [List.getElem?_toArray, List.getElem?_cons_succ, List.getElem?_cons_zero]; rfl)) (by kernel_rfl) (by kernel_rfl) (by kernel_rfl) (by intro _ _ _ h; exact h) (Or.inl ⟨by rfl, ?_⟩) (by assumption) ?_
        rotate_left
        · (intro w hSw; (try dsimp only at hSw); go_simp; try (with_reducible rfl))
        simp only [Act.put, List.setIfInBounds_toArray, List.set_cons_zero, List.set_cons_succ]
        refine wpAnyH_take (i := 14) (v := ?_) (by (simp only [List.getElem?_toArray, List.getElem?_cons_succ, List.getElem?_cons_zero]; rfl)) (by kernel_rfl) (by kernel_rfl) (by kernel_rfl) (by intro _ _ _ h; exact h) (Or.inl ⟨by rfl, ?_⟩) (by assumption) ?_
        rotate_left
        · (intro w hSw; (try dsimp only at hSw); go_simp; try (with_reducible rfl))
        simp only [Act.put, List.setIfInBounds_toArray, List.set_cons_zero, List.set_cons_succ]
        refine wpAnyH_take (i := 15) (v := ?_) (by (simp only [List.getElem?_toArray, List.getElem?_cons_succ, List.getElem?_cons_zero]; rfl)) (by kernel_rfl) (by kernel_rfl) (by kernel_rfl) (by intro _ _ _ h; exact h) (Or.inl ⟨by rfl, ?_⟩) (by assumption) ?_
        rotate_left
        · (intro w hSw; (try dsimp only at hSw); go_simp; try (with_reducible rfl))
        simp only [Act.put, List.setIfInBounds_toArray, List.set_cons_zero, List.set_cons_succ]
        refine wpAnyH_take (i := 16) (v := ?_) (by (simp only [List.getElem?_toArray, List.getElem?_cons_succ, List.getElem?_cons_zero]; rfl)) (by kernel_rfl) (by kernel_rfl) (by kernel_rfl) (by intro _ _ _ h; exact h) (Or.inl ⟨by rfl, ?_⟩) (by assumption) ?_
        rotate_left
        · (intro w hSw; (try dsimp only at hSw); go_simp; try (with_reducible rfl))
        simp only [Act.put, List.setIfInBounds_toArray, List.set_cons_zero, List.set_cons_succ]
        refine wpAnyH_done (by kernel_rfl) ?_ _
        have hr6 := HM3.out.1.below hHeld
        have HM6 := Lib.hid (HM3.out.trans (RM.below HM3.out.1 hHeld))
        clear hHeld hx hle2 hleI
        obtain ⟨c0, c1, c2, c3⟩ := hr6.cells
        rw [← HK.out] at c1
        have f1 := hr6.frozen 1
        have HR6 := Lib.hid hr6
        clear hr6 hlt hltI
        rcases refS_bad HXY.out with hy | hy | hy
        · subst hy
          obtain ⟨hn, hn1, hx4⟩ := refS_small HXY.out
          have HNX := Lib.hid (show letM stop true g (acc ++ x.data.toList) ((c :: r').drop n) = letM stop true (r.length + 1) [] r by rw [HMM.out, if_pos rfl])
          have HLEN := Lib.hid (show ((c :: r').drop n).length < g ∧ (acc ++ x.data.toList).length + 4 * ((c :: r').drop n).length ≤ 4 * r.length by
            have h1 := HG.out
            have h2 := HACC.out
            have h3 : x.data.toList.length = x.size := by simp
            simp only [List.length_drop, List.length_append, List.length_cons] at h1 h2 ⊢
            omega)
          have hsuf : (c :: r').drop n <:+ l := (List.drop_suffix n _).trans HR6.out.1
          have HP := Lib.hid (RM.put HR6.out hsuf ((k : Int) + (n : Int)) (by
            have h1 := HK.out
            have h2 := HLL'.out
            rw [h1, List.length_drop]; omega))
          have HO := Lib.hid (show l.length - offR X (w6.setCell ⟨X, 1, none⟩ (.int .i64 ((k : Int) + (n : Int)))) < l.length - offR X wr by
            rw [HP.out.1.off, HOFF.out]
            have h2 := HLL'.out
            simp only [List.length_drop, List.length_cons] at h2 hn ⊢
            omega)
          have hnI : (n : Int) ≤ 1000000 := by have := HLL'.out; omega
          have hxI : (x.size : Int) ≤ 4 := by omega
          have hxx : x = str x.data.toList := by unfold str; rw [Array.toArray_toList]
          have HSN := Lib.hid (show Value.string (str acc ++ x) = .string (str (acc ++ x.data.toList)) by rw [← app_str, ← hxx])
          have hav : ((str acc).size : Int) ≤ 10000000 := by rw [size_str]; have := HACL.out; omega
          clear hn hn1 hx4 hsuf hxx
          go_wp2
          go_roundw
          case rel => exact ⟨acc ++ x.data.toList, (c :: r').drop n, g, HSN.out, HLEN.out.1, HNX.out, HLEN.out.2, HM6.out.trans HP.out⟩
          case measure => exact HO.out
        · subst hy
          have HFIN := Lib.hid (show letM stop true (r.length + 1) [] r = .bad 13 (c :: r') by rw [HMM.out, if_neg (by decide)]; rfl)
          have HF := Lib.hid (rfail_yes X l (c :: r') 0 13 (k : Int) w6 HR6.out)
          go_wp2_with fail
          refine HF.out.mono ?_
          rintro e w7 ⟨rfl, hm7⟩
          have HM7 := Lib.hid (HM6.out.trans hm7)
          clear hm7
          go_wp2
          go_ret
          rw [HFIN.out]
          exact ⟨rfl, c :: r', by rw [← HK.out]; exact HM7.out⟩
        · subst hy
          have HFIN := Lib.hid (show letM stop true (r.length + 1) [] r = .bad 12 (c :: r') by rw [HMM.out, if_neg (by decide)]; rfl)
          have HF := Lib.hid (rfail_yes X l (c :: r') 0 12 (k : Int) w6 HR6.out)
          go_wp2_with fail
          refine HF.out.mono ?_
          rintro e w7 ⟨rfl, hm7⟩
          have HM7 := Lib.hid (HM6.out.trans hm7)
          clear hm7
          go_wp2
          go_ret
          rw [HFIN.out]
          exact ⟨rfl, c :: r', by rw [← HK.out]; exact HM7.out⟩
      · have h38b : ((c.toNat : Int) == 38) = false := u8_ne2 (d := 38) h38
        have HMM := Lib.hid (show letM stop true (r.length + 1) [] r = if c = 60 || !(tx c) then .bad 10 (c :: r') else letM stop true g (acc ++ [c]) r' by rw [← HMOD.out]; rw [letM, if_neg HNS.out, if_neg h38])
        clear h38
        by_cases h60 : c = 60
        · have h60b : ((c.toNat : Int) == 60) = true := by rw [h60]; rfl
          have HFIN := Lib.hid (show letM stop true (r.length + 1) [] r = .bad 10 (c :: r') by rw [HMM.out, if_pos (by simp [h60])])
          have HF := Lib.hid (rfail_yes X l (c :: r') 0 10 (k : Int) w3 HM3.out.1)
          clear h60
          go_wp2_with fail
          refine HF.out.mono ?_
          rintro e w7 ⟨rfl, hm7⟩
          have HM7 := Lib.hid (HM3.out.trans hm7)
          clear hm7
          go_wp2
          go_ret
          rw [HFIN.out]
          exact ⟨rfl, c :: r', by rw [← HK.out]; exact HM7.out⟩
        · have h60b : ((c.toNat : Int) == 60) = false := u8_ne2 (d := 60) h60
          have HMM2 := Lib.hid (show letM stop true (r.length + 1) [] r = if tx c then letM stop true g (acc ++ [c]) r' else .bad 10 (c :: r') by
            rw [HMM.out]
            cases htc : tx c <;> simp [h60])
          clear h60 HMM
          generalize htx : tx c = b at HMM2
          have HIS := Lib.hid (fun w => is_at (c.toNat : Int) 16 b (by decide) (by decide) (by rw [(cls_all _).2.2.2.2]; exact htx) w)
          clear htx
          go_wp2_with fail
          refine (HIS.out _).mono ?_
          rintro e w4 ⟨rfl, hw4⟩
          obtain rfl : w3 = w4 := hw4.symm
          cases b with
          | false =>
            have HFIN := Lib.hid (show letM stop true (r.length + 1) [] r = .bad 10 (c :: r') by rw [HMM2.out, if_neg (by decide)])
            have HF := Lib.hid (rfail_yes X l (c :: r') 0 10 (k : Int) w3 HM3.out.1)
            clear hw4
            go_wp2_with fail
            refine HF.out.mono ?_
            rintro e w7 ⟨rfl, hm7⟩
            have HM7 := Lib.hid (HM3.out.trans hm7)
            clear hm7
            go_wp2
            go_ret
            rw [HFIN.out]
            exact ⟨rfl, c :: r', by rw [← HK.out]; exact HM7.out⟩
          | true =>
            have HNX := Lib.hid (show letM stop true g (acc ++ [c]) r' = letM stop true (r.length + 1) [] r by rw [HMM2.out, if_pos rfl])
            have hsl : ∀ w, (Instr.slice 9 (.string (str l)) (some (.int .i64 (k : Int))) (some (.int .i64 ((k : Int) + 1))) none).run Tryz.prog w = .ok (.string (str [c])) w := fun w => by
              rw [run_slice_string w 9 _ _ _ _ _ Tryz.underlying9 (by omega) (by omega) (by omega), ← HX1.out]
              congr 3
            have hcs : ((str [c]).size : Int) ≤ 1 := by rw [size_str]; simp
            have hav : ((str acc).size : Int) ≤ 10000000 := by rw [size_str]; have := HACL.out; omega
            have HSN := Lib.hid (show Value.string (str acc ++ str [c]) = .string (str (acc ++ [c])) by rw [app_str])
            clear hw4
            go_upto_region 17 with fail
            go_quiet (fail)
            have hm5 := RM.drew HM3.out.1 nq
            have HM5 := Lib.hid (HM3.out.trans hm5)
            generalize w3.drewN nq = w5 at hm5 HM5 ⊢
            clear c0 c1 c2 c3 hsl hcs hav
            obtain ⟨c0, c1, c2, c3⟩ := hm5.1.cells
            rw [← HK.out] at c1
            have f1 := hm5.1.frozen 1
            clear hm5
            have hsuf : r' <:+ l := (List.suffix_cons c r').trans HM5.out.1.1
            have HP := Lib.hid (RM.put HM5.out.1 hsuf ((k : Int) + 1) (by
              have h1 := HK.out
              have h2 := HLL'.out
              rw [h1]; simp at h2 ⊢; omega))
            have HO := Lib.hid (show l.length - offR X (w5.setCell ⟨X, 1, none⟩ (.int .i64 ((k : Int) + 1))) < l.length - offR X wr by
              rw [HP.out.1.off, HOFF.out]
              have h2 := HLL'.out
              simp at h2 ⊢
              omega)
            have HLEN := Lib.hid (show r'.length < g ∧ (acc ++ [c]).length + 4 * r'.length ≤ 4 * r.length by
              have h1 := HG.out
              have h2 := HACC.out
              simp only [List.length_append, List.length_cons, List.length_nil] at h1 h2 ⊢
              omega)
            clear hsuf
            go_wp2
            go_roundw
            case rel => exact ⟨acc ++ [c], r', g, HSN.out, HLEN.out.1, HNX.out, HLEN.out.2, HM5.out.trans HP.out⟩
            case measure => exact HO.out
end
/-! Rf2e -/
section
open Go.RowKit

/-- at a text's end it is the caller who finds it -/
def attrsR : Nat → List At2 → List UInt8 → Rs (List At2)
  | 0, ats, r => .ok ats r
  | f + 1, ats, r =>
    if blanksM r = r then .ok ats r
    else match blanksM r with
      | [] => .ok ats []
      | c :: r1 => if c = 47 || c = 62 then .ok ats (c :: r1) else (attrM ats (c :: r1)).bind fun a r2 => attrsR f (ats ++ [a]) r2
theorem blanks_lt {r : List UInt8} (h : blanksM r ≠ r) : (blanksM r).length < r.length := by
  rcases Nat.lt_or_ge (blanksM r).length r.length with h1 | h1
  · exact h1
  · exact absurd ((blanks_left r).eq_of_length (by have := blanks_len r; omega)) h
theorem attrs_end (n : List UInt8) : ∀ (f : Nat) (ats : List At2) (r : List UInt8), r.length < f → (attrsM f ats r).bind (endM n) = (attrsR f ats r).bind (endM n)
  | 0, ats, r, h => by omega
  | f + 1, ats, r, h => by
    rw [attrsM, attrsR]
    by_cases hb : blanksM r = r
    · rw [if_pos hb, if_pos hb]
    · rw [if_neg hb, if_neg hb]
      have hlt := blanks_lt hb
      generalize blanksM r = rb at hlt
      cases rb with
      | nil => rfl
      | cons c r1 =>
        by_cases hc : (decide (c = 47) || decide (c = 62)) = true
        · show (ite _ _ _ : Rs (List At2)).bind _ = (ite _ _ _ : Rs (List At2)).bind _
          rw [if_pos hc, if_pos hc]
        · show (ite _ _ _ : Rs (List At2)).bind _ = (ite _ _ _ : Rs (List At2)).bind _
          rw [if_neg hc, if_neg hc]
          cases hA : attrM ats (c :: r1) with
          | bad e r2 => rfl
          | ok a r2 =>
            have := attr_len hA
            exact attrs_end n f (ats ++ [a]) r2 (by omega)
theorem openM_eqR (r : List UInt8) : openM r = (nameM 11 r).bind fun n r1 => (attrsR (r1.length + 1) [] r1).bind (endM n) := by
  rw [openM_eq]
  congr 1
  funext n r1
  exact attrs_end n _ _ _ (by omega)
/-- at the end of the text, inside quotes -/
def closeL : Rs (List UInt8) → Rs (List UInt8)
  | .ok v [] => .bad 13 []
  | .ok v (c :: r) => .ok v (c :: r)
  | .bad e r => .bad e r
theorem let_close {stop : UInt8} : ∀ (f : Nat) (acc r : List UInt8), r.length < f → letM stop false f acc r = closeL (letM stop true f acc r)
  | 0, acc, r, h => by omega
  | f + 1, acc, [], h => rfl
  | f + 1, acc, c :: r, h => by
    by_cases hc : c = stop
    · rw [letM, letM, if_pos hc, if_pos hc]; rfl
    · by_cases h38 : c = 38
      · obtain ⟨⟨x, n, y⟩, hxy⟩ : ∃ z, refS (c :: r) = z := ⟨_, rfl⟩
        rw [let_ref hc h38 hxy, let_ref hc h38 hxy]
        by_cases hy : y = 0
        · subst hy
          have hs := refS_small hxy
          rw [if_pos rfl, if_pos rfl]
          refine let_close f _ _ ?_
          rw [List.length_drop]
          simp only [List.length_cons] at hs h ⊢
          omega
        · rw [if_neg hy, if_neg hy]; rfl
      · rw [letM, letM, if_neg hc, if_neg hc, if_neg h38, if_neg h38]
        split
        · rfl
        · exact let_close f _ _ (by simp only [List.length_cons] at h; omega)
/-- on the way: the answer's reader in X, attributes so far in va -/
structure RA (w : World) (X : Nat) (l r : List UInt8) (c o : Int) (ats : List At2) (va : Value) (wk : World) : Prop where
  rr : RR wk X l r c o
  fr : FrX w.heap.size X w wk
  own : wk.ownsRow w.heap.size 68 2 va ats.length (rowAs ats)
  hX : X < w.heap.size
section
variable {w wk wk' : World} {X : Nat} {l r r' : List UInt8} {c o c' o' : Int} {ats : List At2} {va : Value}
theorem RA.mv (h : RA w X l r c o ats va wk) (hm : RM X l r' c' o' wk wk') : RA w X l r' c' o' ats va wk' :=
  ⟨hm.1, h.fr.trans (FrX.ofGrown hm.2 h.fr.size), own_x h.own hm.2 h.hX, h.hX⟩
theorem RA.below (h : RA w X l r c o ats va wk) (hb : Below wk.heap.size wk wk') : RA w X l r c o ats va wk' :=
  ⟨h.rr.below hb, h.fr.trans (FrX.ofBelow (hb.mono h.fr.size)), own_belowG h.own hb, h.hX⟩
theorem RA.push {v' : Value} {a : At2} (h : RA w X l r c o ats va wk) (ho : wk'.ownsRow w.heap.size 68 2 v' (ats.length + 1) (rowAs ats ++ atL a)) (hb : Below w.heap.size wk wk') : RA w X l r c o (ats ++ [a]) v' wk' :=
  ⟨⟨h.rr.1, (hb.block X h.hX).trans h.rr.2⟩, h.fr.trans (FrX.ofBelow hb), by rw [List.length_append, List.length_singleton, rowAs_snoc]; exact ho, h.hX⟩
theorem RA.rm (h : RA w X l r c o ats va wk) : RM X l r c o w wk := ⟨h.rr, h.fr.grown⟩
theorem RA.rd (h : RA w X l r c o ats va wk) : RdAs wk va ats := RdAs.of_own h.own
end
/-- an attribute behind a row of one's own -/
theorem appA2 {ops : Array Oper} {rest : List Oper} {o : Oper} {a : Act} {Q : Exit → Act → World → Prop} {w0 : World} (p : At2) (hgd : o.guard = none) (s x : Operand)
    (ho : o.op = .call { callee := .builtin .append, args := #[s, x], argTypes := #[23, 23] }) (base n : Nat)
    (v : Value) (xs : List Value) (hs : a.eval s = v) (hown : w0.ownsRow base 68 2 v n xs) (hx : a.eval x = .slice (some ⟨w0.heap.size, 0, none⟩) 1 1)
    (h63 : n ≤ 10000000) (hbase : base ≤ w0.heap.size)
    (h : ∀ v' w', w'.ownsRow base 68 2 v' (n + 1) (xs ++ atL p) → Below base w0 w' → wpList Tryz.prog ops Q rest (a.put o.dst v') w') :
    wpList Tryz.prog ops Q (o :: rest) a (w0.alloc (.cells #[.string (str p.1), .string (str p.2)] 68)) := by
  obtain ⟨i, hi, hz, hsize, hby⟩ := info_parts attr_info
  have hlt : ∀ k, v.ownBlock = some k → base ≤ k := fun k hk => (hown.lt k hk).1
  refine wpList_append_own _ hgd s x _ ho base 68 i _ 2 32 Tryz.underlying23 hi hz hsize hby rfl (by omega) v n xs hs (hown.alloc _) ⟨w0.heap.size, 0, none⟩ 1 1 (atL p) hx rfl ?_ ?_ (by simp only [maxLen]; omega) (by omega) (by simp; omega) ?_
  · intro j y hj
    rw [show (⟨w0.heap.size, 0, none⟩ : Addr).add j = ⟨w0.heap.size, j, none⟩ by unfold Addr.add; split <;> simp_all, World.cell?_alloc_at _ _ _ _ rfl]
    simpa [atL] using hj
  · intro u hu
    simp only [atL, List.mem_cons, List.not_mem_nil, or_false] at hu
    rcases hu with rfl | rfl <;> rfl
  · intro v' w' ho' hg _
    have hg0 : w0.grownBy w' v.ownBlock := ⟨hg.os, hg.tape, hg.output, Nat.le_trans (by simp) hg.size, fun k hk hne => (hg.block k (by simp; omega) hne).trans (Below.heap_alloc _ _ _ hk)⟩
    exact h v' w' ho' ((Below.refl _ _).grown hg0 hbase hlt)
/-- what attrs leaves -/
def RfA (X : Nat) (l : List UInt8) (M : Rs (List At2)) (w : World) (e : Ending) (w' : World) : Prop :=
  match M with
  | .ok ats r => ∃ va, e = .returned va ∧ RA w X l r 0 0 ats va w'
  | .bad c r => e = .returned (.slice none 0 0) ∧ ∃ r', RM X l r' c ((l.length - r.length : Nat) : Int) w w'
/-- a name, or something that went wrong -/
theorem name_two {X : Nat} {l r : List UInt8} {e0 : Int} {w w' : World} {e : Ending} (he0 : e0 ≠ 0) (h : RfP X l (nameM e0 r) (fun n => .string (str n)) (.string (str [])) w e w') :
    ∃ n c0 o0 r1, e = .returned (.string (str n)) ∧ RM X l r1 c0 o0 w w' ∧ ((c0 = 0 ∧ o0 = 0 ∧ nameM e0 r = .ok n r1) ∨ (c0 ≠ 0 ∧ n = [] ∧ ∃ r5, nameM e0 r = .bad c0 r5 ∧ o0 = ((l.length - r5.length : Nat) : Int))) := by
  cases hM : nameM e0 r with
  | ok n r1 => rw [hM] at h; exact ⟨n, 0, 0, r1, h.1, h.2, .inl ⟨rfl, rfl, rfl⟩⟩
  | bad c r5 =>
    rw [hM] at h
    obtain ⟨h1, r', h2⟩ := h
    exact ⟨[], c, _, r', h1, h2, .inr ⟨ne_name he0 r _ _ hM, rfl, r5, rfl, rfl⟩⟩
/-- the error behind some of the attributes ahead -/
def dupC (c0 : Int) (b : Bool) : Int := if c0 = 0 then (if b then 15 else 0) else c0
def dupO (c0 o0 at0 : Int) (b : Bool) : Int := if c0 = 0 then (if b then at0 else 0) else o0
theorem dup_0 {c0 o0 at0 : Int} (h : c0 = 0 → o0 = 0) : dupC c0 false = c0 ∧ dupO c0 o0 at0 false = o0 := by
  unfold dupC dupO
  by_cases hc : c0 = 0
  · simp [hc, h hc]
  · simp [hc]
theorem dup_stay {c0 o0 at0 : Int} {b : Bool} (hc : dupC c0 b ≠ 0) : dupC c0 true = dupC c0 b ∧ dupO c0 o0 at0 true = dupO c0 o0 at0 b := by
  unfold dupC dupO at *
  by_cases h : c0 = 0
  · rw [if_pos h] at hc
    cases b
    · exact absurd rfl hc
    · exact ⟨rfl, rfl⟩
  · simp [h]
theorem dup_new {c0 o0 at0 : Int} {b : Bool} (hc : dupC c0 b = 0) : dupC c0 true = 15 ∧ dupO c0 o0 at0 true = at0 := by
  unfold dupC dupO at *
  by_cases h : c0 = 0
  · simp [h]
  · rw [if_neg h] at hc; exact absurd hc h
theorem any_snoc2 {ats : List At2} {q : Nat} {x : At2} {n : List UInt8} (hx : ats[q]? = some x) : (ats.take (q + 1)).any (fun a => a.1 == n) = ((ats.take q).any (fun a => a.1 == n) || (x.1 == n)) := by
  rw [List.take_add_one, hx, List.any_append]
  simp
end
/-! Rf2f -/
section
open Go.RowKit

theorem nm_len {e0 : Int} {r n r1 : List UInt8} (h : nameM e0 r = .ok n r1) : r1.length ≤ r.length := ok_len h (name_left e0 r)
theorem rattrs_bad (X : Nat) (l r : List UInt8) (c o : Int) (hc : (c == 0) = false) (w : World) (h : RR w X l r c o) :
    Calls Tryz.prog 70 #[.pointer (some ⟨X, 0, none⟩)] w fun e w' => e = .returned (.slice none 0 0) ∧ w' = w := by
  obtain ⟨c0, c1, c2, c3⟩ := h.cells
  clear h
  go_enter Tryz.func70, Tryz.ntmps70
  go_wp2_with fail
  go_loopw [3] (fun v wr => v = .slice none 0 0 ∧ wr = w) (fun _ _ => 0)
  case atStart => exact ⟨rfl, rfl⟩
  case round =>
    obtain ⟨rfl, rfl⟩ := hrel
    go_wp2
    go_ret
    exact ⟨rfl, rfl⟩
set_option maxRecDepth 100000 in
set_option maxHeartbeats 8000000 in
theorem rattrs_at (X : Nat) (l r : List UInt8) (hl : l.length ≤ 1000000) (w : World) (h : RR w X l r 0 0) :
    Calls Tryz.prog 70 #[.pointer (some ⟨X, 0, none⟩)] w (RfA X l (attrsR (r.length + 1) [] r) w) := by
  have HS := Lib.hid (show RA w X l r 0 0 [] (.slice none 0 0) w from ⟨h, FrX.refl _ _ _, World.ownsRow_nil _ _ _ _, h.lt⟩)
  have HLL := Lib.hid (suf_len h.1)
  have HSZ := Lib.hid (size_str l)
  clear h
  go_enter Tryz.func70, Tryz.ntmps70
  go_wp2_with fail
  go_loopw [3] (fun v wr => ∃ ats r' f, r'.length < f ∧ attrsR f ats r' = attrsR (r.length + 1) [] r ∧ ats.length + r'.length ≤ r.length ∧ RA w X l r' 0 0 ats v wr) (fun _ wr => l.length - offR X wr)
  case atStart => exact ⟨[], r, r.length + 1, by omega, rfl, by simp, HS.out⟩
  case round =>
    obtain ⟨ats, r', f, hf, hmod, hlen, ha⟩ := hrel
    obtain ⟨g, hg⟩ : ∃ g, f = g + 1 := ⟨f - 1, by omega⟩
    subst hg
    have HMOD := Lib.hid hmod
    have HLEN := Lib.hid hlen
    have HG := Lib.hid hf
    have HA := Lib.hid ha
    have HLL' := Lib.hid (suf_len ha.rr.1)
    have HOFF := Lib.hid ha.rr.off
    obtain ⟨aa, ac, hv⟩ := RdSl.shape ha.rd
    subst hv
    have hla := RdSl.len ha.rd
    have hlaI : (ats.length : Int) ≤ 9223372036854775807 := by omega
    obtain ⟨c0, c1, c2, c3⟩ := ha.rr.cells
    have hn0I : ((l.length - r'.length : Nat) : Int) ≤ 1000000 := by omega
    obtain ⟨n0, hn0⟩ : ∃ n0, n0 = l.length - r'.length := ⟨_, rfl⟩
    rw [← hn0] at c1 hn0I
    have HN0 := Lib.hid hn0
    clear hn0 hf hmod hlen ha hla
    have HBL := Lib.hid (rblanks_at X l r' 0 0 hl _ HA.out.rr)
    go_upto_region 4 with fail
    clear c0 c1 c2 c3
    go_wp2_with fail
    refine HBL.out.mono ?_
    rintro e w2 ⟨rfl, hm2⟩
    have HA2 := Lib.hid (HA.out.mv hm2)
    clear hm2 HBL
    go_upto_region 5 with fail
    go_cut [49] from 10 to 129 (fun t wx => ∃ r2, RA w X l r2 0 0 ats (.slice aa ats.length ac) wx ∧ ((t = .bool true ∧ attrsR (r.length + 1) [] r = .ok ats r2) ∨ (t = .bool false ∧ ∃ c r3, r2 = c :: r3 ∧ r2.length < r'.length ∧ (attrM ats r2).bind (fun a r4 => attrsR g (ats ++ [a]) r4) = attrsR (r.length + 1) [] r)))
    case first =>
      obtain ⟨c0, c1, c2, c3⟩ := HA2.out.rr.cells
      have hsz := HSZ.out
      have hll := HLL'.out
      have hbl := blanks_len r'
      by_cases hb : blanksM r' = r'
      · have HFIN := Lib.hid (show attrsR (r.length + 1) [] r = .ok ats (blanksM r') by rw [← HMOD.out, attrsR, if_pos hb, hb])
        have hnn : l.length - (blanksM r').length = n0 := by rw [hb]; exact HN0.out.symm
        rw [hnn] at c1
        have heq : ((n0 : Int) == (n0 : Int)) = true := by simp
        clear hb hnn hsz hll hbl
        go_quiet (fail)
        go_wp2_with fail
        go_meet
        exact ⟨_, HA2.out.below (below_drewN (Below.refl _ _) _), .inl ⟨rfl, HFIN.out⟩⟩
      · have hlt := blanks_lt hb
        have HX := Lib.hid (show attrsR (r.length + 1) [] r = (match blanksM r' with
          | [] => .ok ats []
          | c :: r1 => if c = 47 || c = 62 then .ok ats (c :: r1) else (attrM ats (c :: r1)).bind fun a r2 => attrsR g (ats ++ [a]) r2 : Rs (List At2)) by rw [← HMOD.out, attrsR, if_neg hb] <;> rfl)
        have HLT := Lib.hid hlt
        have hq : (((l.length - (blanksM r').length : Nat) : Int) == (n0 : Int)) = false := by
          rw [beq_eq_false_iff_ne]
          have h1 := HN0.out
          omega
        clear hb hbl hlt
        generalize blanksM r' = rb at HX HLT HA2 c1 hq
        cases rb with
        | nil =>
          have hge : decide (((str l).size : Int) ≤ ((l.length - ([] : List UInt8).length : Nat) : Int)) = true := decide_eq_true (by rw [hsz]; simp)
          have hgeN : decide ((str l).size ≤ l.length - ([] : List UInt8).length) = true := decide_eq_true (by rw [hsz]; simp)
          generalize l.length - ([] : List UInt8).length = n1 at c1 hq hge hgeN
          clear hsz hll
          go_quiet (fail)
          go_wp2_with fail
          go_meet
          exact ⟨_, HA2.out.below (below_drewN (Below.refl _ _) _), .inl ⟨rfl, HX.out⟩⟩
        | cons c r3 =>
          have hll2 := suf_len HA2.out.rr.1
          simp only [List.length_cons] at hll2
          have hge : decide (((str l).size : Int) ≤ ((l.length - (c :: r3).length : Nat) : Int)) = false := decide_eq_false (by rw [hsz]; simp only [List.length_cons]; omega)
          have hgeN : decide ((str l).size ≤ l.length - (c :: r3).length) = false := decide_eq_false (by rw [hsz]; simp only [List.length_cons]; omega)
          have HAT := Lib.hid (fun w1 (hm : RM X l (c :: r3) 0 0 w2 w1) => rat_some X l (c :: r3) 0 0 0 c rfl hl w1 hm.1)
          have C0 := Lib.hid (fun w1 (hm : RM X l (c :: r3) 0 0 w2 w1) => hm.1.cells.1)
          have C1 := Lib.hid (fun w1 (hm : RM X l (c :: r3) 0 0 w2 w1) => hm.1.cells.2.1)
          generalize l.length - (c :: r3).length = n1 at C1 hq hge hgeN
          clear hsz hll hll2 c0 c1 c2 c3
          by_cases h47 : c = 47
          · have hq47 : ((c.toNat : Int) == 47) = true := by rw [h47]; rfl
            have HFIN := Lib.hid (show attrsR (r.length + 1) [] r = .ok ats (c :: r3) by rw [HX.out, h47]; rfl)
            clear h47
            refine wp_region_held_drew (S := (fun w1 => RM X l (c :: r3) 0 0 w2 w1)) (by kernel_rfl) (by (try dsimp only); exact RM.drew0 HA2.out.rr) (fun hHeld => ?_)
            generalize w2.drew = wd at hHeld ⊢
            refine wpAnyH_take (i := 0) (v := ?_) (by (simp only [List.getElem?_toArray, List.getElem?_cons_succ, List.getElem?_cons_zero]; rfl)) (by kernel_rfl) (by kernel_rfl) (by kernel_rfl) (by intro _ _ _ h; exact h) (Or.inl ⟨by rfl, ?_⟩) (by assumption) ?_
            rotate_left
            · (intro w hSw; (try dsimp only at hSw); go_simp; try (with_reducible rfl))
            simp only [Act.put, List.setIfInBounds_toArray, List.set_cons_zero, List.set_cons_succ]
            refine wpAnyH_take (i := 1) (v := ?_) (by (simp only [List.getElem?_toArray, List.getElem?_cons_succ, List.getElem?_cons_zero]; rfl)) (by kernel_rfl) (by kernel_rfl) (by kernel_rfl) (by intro _ _ _ h; exact h) (Or.inl ⟨by rfl, ?_⟩) (by assumption) ?_
            rotate_left
            · (intro w hSw; (try dsimp only at hSw); go_simp; try (with_reducible rfl))
            simp only [Act.put, List.setIfInBounds_toArray, List.set_cons_zero, List.set_cons_succ]
            refine wpAnyH_take (i := 2) (v := ?_) (by (simp only [List.getElem?_toArray, List.getElem?_cons_succ, List.getElem?_cons_zero]; rfl)) (by kernel_rfl) (by kernel_rfl) (by kernel_rfl) (by intro _ _ _ h; exact h) (Or.inl ⟨by rfl, ?_⟩) (by assumption) ?_
            rotate_left
            · (intro w hSw; (try dsimp only at hSw); go_simp; try (with_reducible rfl))
            simp only [Act.put, List.setIfInBounds_toArray, List.set_cons_zero, List.set_cons_succ]
            refine wpAnyH_take (i := 3) (v := ?_) (by (simp only [List.getElem?_toArray, List.getElem?_cons_succ, List.getElem?_cons_zero]; rfl)) (by kernel_rfl) (by kernel_rfl) (by kernel_rfl) (by intro _ _ _ h; exact h) (Or.inl ⟨by rfl, ?_⟩) (by assumption) ?_
            rotate_left
            · (intro w hSw; have q1 := C1.out w hSw; go_simp; try (with_reducible rfl))
            simp only [Act.put, List.setIfInBounds_toArray, List.set_cons_zero, List.set_cons_succ]
            refine wpAnyH_take (i := 4) (v := ?_) (by (simp only [List.getElem?_toArray, List.getElem?_cons_succ, List.getElem?_cons_zero]; rfl)) (by kernel_rfl) (by kernel_rfl) (by kernel_rfl) (by intro _ _ _ h; exact h) (Or.inl ⟨by rfl, ?_⟩) (by assumption) ?_
            rotate_left
            · (intro w hSw; (try dsimp only at hSw); go_simp; try (with_reducible rfl))
            simp only [Act.put, List.setIfInBounds_toArray, List.set_cons_zero, List.set_cons_succ]
            refine wpAnyH_take (i := 5) (v := ?_) (by (simp only [List.getElem?_toArray, List.getElem?_cons_succ, List.getElem?_cons_zero]; rfl)) (by kernel_rfl) (by kernel_rfl) (by kernel_rfl) (by intro _ _ _ h; exact h) (Or.inl ⟨by rfl, ?_⟩) (by assumption) ?_
            rotate_left
            · (intro w hSw; (try dsimp only at hSw); go_simp; try (with_reducible rfl))
            simp only [Act.put, List.setIfInBounds_toArray, List.set_cons_zero, List.set_cons_succ]
            refine wpAnyH_take (i := 6) (v := ?_) (by (simp only [List.getElem?_toArray, List.getElem?_cons_succ, List.getElem?_cons_zero]; rfl)) (by kernel_rfl) (by kernel_rfl) (by kernel_rfl) (by intro _ _ _ h; exact h) (Or.inl ⟨by rfl, ?_⟩) (by assumption) ?_
            rotate_left
            · (intro w hSw; (try dsimp only at hSw); go_simp; try (with_reducible rfl))
            simp only [Act.put, List.setIfInBounds_toArray, List.set_cons_zero, List.set_cons_succ]
            refine wpAnyH_take (i := 7) (v := ?_) (by (simp only [List.getElem?_toArray, List.getElem?_cons_succ, List.getElem?_cons_zero]; rfl)) (by kernel_rfl) (by kernel_rfl) (by kernel_rfl) (by intro _ _ _ h; exact h) (Or.inl ⟨by rfl, ?_⟩) (by assumption) ?_
            rotate_left
            · (intro w hSw; (try dsimp only at hSw); go_simp; try (with_reducible rfl))
            simp only [Act.put, List.setIfInBounds_toArray, List.set_cons_zero, List.set_cons_succ]
            refine wpAnyH_take (i := 8) (v := ?_) (by (simp only [List.getElem?_toArray, List.getElem?_cons_succ, List.getElem?_cons_zero]; rfl)) (by kernel_rfl) (by kernel_rfl) (by kernel_rfl) (by intro _ _ _ h; exact h) (Or.inl ⟨by rfl, ?_⟩) (by assumption) ?_
            rotate_left
            · (intro w hSw; (try dsimp only at hSw); go_simp; try (with_reducible rfl))
            simp only [Act.put, List.setIfInBounds_toArray, List.set_cons_zero, List.set_cons_succ]
            refine wpAnyH_take (i := 9) (v := ?_) (by (simp only [List.getElem?_toArray, List.getElem?_cons_succ, List.getElem?_cons_zero]; rfl)) (by kernel_rfl) (by kernel_rfl) (by kernel_rfl) (by intro _ _ _ h; exact h) (Or.inl ⟨by rfl, ?_⟩) (by assumption) ?_
            rotate_left
            · (intro w hSw; (try dsimp only at hSw); go_simp; try (with_reducible rfl))
            simp only [Act.put, List.setIfInBounds_toArray, List.set_cons_zero, List.set_cons_succ]
            refine wpAnyH_take (i := 10) (v := ?_) (by (simp only [List.getElem?_toArray, List.getElem?_cons_succ, List.getElem?_cons_zero]; rfl)) (by kernel_rfl) (by kernel_rfl) (by kernel_rfl) (by intro _ _ _ h; exact h) (Or.inl ⟨by rfl, ?_⟩) (by assumption) ?_
            rotate_left
            · (intro w hSw; have q1 := C1.out w hSw; go_simp; try (with_reducible rfl))
            simp only [Act.put, List.setIfInBounds_toArray, List.set_cons_zero, List.set_cons_succ]
            refine wpAnyH_take (i := 11) (v := ?_) (by (simp only [List.getElem?_toArray, List.getElem?_cons_succ, List.getElem?_cons_zero]; rfl)) (by kernel_rfl) (by kernel_rfl) (by kernel_rfl) (by intro _ _ _ h; exact h) (Or.inl ⟨by rfl, ?_⟩) (by assumption) ?_
            rotate_left
            · (intro w hSw; (try dsimp only at hSw); go_simp; try (with_reducible rfl))
            simp only [Act.put, List.setIfInBounds_toArray, List.set_cons_zero, List.set_cons_succ]
            refine wpAnyH_take (i := 12) (v := ?_) (by (simp only [List.getElem?_toArray, List.getElem?_cons_succ, List.getElem?_cons_zero]; rfl)) (by kernel_rfl) (by kernel_rfl) (by kernel_rfl) (by intro _ _ _ h; exact h) (Or.inl ⟨by rfl, ?_⟩) (by assumption) ?_
            rotate_left
            · (intro w hSw; (try dsimp only at hSw); go_simp; try (with_reducible rfl))
            simp only [Act.put, List.setIfInBounds_toArray, List.set_cons_zero, List.set_cons_succ]
            refine wpAnyH_take (i := 13) (v := ?_) (by (simp only [List.getElem?_toArray, List.getElem?_cons_succ, List.getElem?_cons_zero]; rfl)) (by kernel_rfl) (by kernel_rfl) (by kernel_rfl) (by intro _ _ _ h; exact h) (Or.inl ⟨by rfl, ?_⟩) (by assumption) ?_
            rotate_left
            · (intro w hSw; (try dsimp only at hSw); go_simp; try (with_reducible rfl))
            simp only [Act.put, List.setIfInBounds_toArray, List.set_cons_zero, List.set_cons_succ]
            refine wpAnyH_take (i := 14) (v := ?_) (by (simp only [List.getElem?_toArray, List.getElem?_cons_succ, List.getElem?_cons_zero]; rfl)) (by kernel_rfl) (by kernel_rfl) (by kernel_rfl) (by intro _ _ _ h; exact h) (Or.inl ⟨by rfl, ?_⟩) (by assumption) ?_
            rotate_left
            · (intro w hSw; have q1 := C0.out w hSw; go_simp; try (with_reducible rfl))
            simp only [Act.put, List.setIfInBounds_toArray, List.set_cons_zero, List.set_cons_succ]
            refine wpAnyH_take (i := 15) (v := ?_) (by (simp only [List.getElem?_toArray, List.getElem?_cons_succ, List.getElem?_cons_zero]; rfl)) (by kernel_rfl) (by kernel_rfl) (by kernel_rfl) (by intro _ _ _ h; exact h) (Or.inl ⟨by rfl, ?_⟩) (by assumption) ?_
            rotate_left
            · (intro w hSw; (try dsimp only at hSw); go_simp; try (with_reducible rfl))
            simp only [Act.put, List.setIfInBounds_toArray, List.set_cons_zero, List.set_cons_succ]
            refine wpAnyH_take (i := 16) (v := ?_) (by (simp only [List.getElem?_toArray, List.getElem?_cons_succ, List.getElem?_cons_zero]; rfl)) (by kernel_rfl) (by kernel_rfl) (by kernel_rfl) (by intro _ _ _ h; exact h) (Or.inl ⟨by rfl, ?_⟩) (by assumption) ?_
            rotate_left
            · (intro w hSw; (try dsimp only at hSw); go_simp; try (with_reducible rfl))
            simp only [Act.put, List.setIfInBounds_toArray, List.set_cons_zero, List.set_cons_succ]
            refine wpAnyH_take (i := 17) (v := ?_) (by (simp only [List.getElem?_toArray, List.getElem?_cons_succ, List.getElem?_cons_zero]; rfl)) (by kernel_rfl) (by kernel_rfl) (by kernel_rfl) (by intro _ _ _ h; exact h) (Or.inl ⟨by rfl, ?_⟩) (by assumption) ?_
            rotate_left
            · (intro w hSw; (try dsimp only at hSw); go_simp; try (with_reducible rfl))
            simp only [Act.put, List.setIfInBounds_toArray, List.set_cons_zero, List.set_cons_succ]
            refine wpAnyH_take (i := 18) (v := ?_) (by (simp only [List.getElem?_toArray, List.getElem?_cons_succ, List.getElem?_cons_zero]; rfl)) (by kernel_rfl) (by kernel_rfl) (by kernel_rfl) (by intro _ _ _ h; exact h) (Or.inl ⟨by rfl, ?_⟩) (by assumption) ?_
            rotate_left
            · (intro w hSw; (try dsimp only at hSw); go_simp; try (with_reducible rfl))
            simp only [Act.put, List.setIfInBounds_toArray, List.set_cons_zero, List.set_cons_succ]
            refine wpAnyH_take (i := 19) (v := ?_) (by (simp only [List.getElem?_toArray, List.getElem?_cons_succ, List.getElem?_cons_zero]; rfl)) (by kernel_rfl) (by kernel_rfl) (by kernel_rfl) (by intro _ _ _ h; exact h) (Or.inl ⟨by rfl, ?_⟩) (by assumption) ?_
            rotate_left
            · (intro w hSw; (try dsimp only at hSw); go_simp; try (with_reducible rfl))
            simp only [Act.put, List.setIfInBounds_toArray, List.set_cons_zero, List.set_cons_succ]
            refine wpAnyH_ready (rs := [20]) (by kernel_rfl) (by simp) ?_
            refine AllReadyH.cons (by (simp only [List.getElem?_toArray, List.getElem?_cons_succ, List.getElem?_cons_zero]; rfl)) (fun K hK => ?_) AllReadyH.nil
            go_simp
            go_at_call 65; refine (HAT.out _ hHeld).mono ?_; rintro e w6 ⟨rfl, hm6⟩
            refine hK.out _ _ (by (try dsimp only); exact hHeld.trans hm6) (fun hHeld => ?_)
            clear hK K
            try simp only [Act.put, List.setIfInBounds_toArray, List.set_cons_zero, List.set_cons_succ]
            clear hm6
            refine wpAnyH_take (i := 21) (v := ?_) (by (simp only [List.getElem?_toArray, List.getElem?_cons_succ, List.getElem?_cons_zero]; rfl)) (by kernel_rfl) (by kernel_rfl) (by kernel_rfl) (by intro _ _ _ h; exact h) (Or.inl ⟨by rfl, ?_⟩) (by assumption) ?_
            rotate_left
            · (intro w hSw; (try dsimp only at hSw); go_simp; try (with_reducible rfl))
            simp only [Act.put, List.setIfInBounds_toArray, List.set_cons_zero, List.set_cons_succ]
            refine wpAnyH_take (i := 22) (v := ?_) (by (simp only [List.getElem?_toArray, List.getElem?_cons_succ, List.getElem?_cons_zero]; rfl)) (by kernel_rfl) (by kernel_rfl) (by kernel_rfl) (by intro _ _ _ h; exact h) (Or.inl ⟨by rfl, ?_⟩) (by assumption) ?_
            rotate_left
            · (intro w hSw; (try dsimp only at hSw); go_simp; try (with_reducible rfl))
            simp only [Act.put, List.setIfInBounds_toArray, List.set_cons_zero, List.set_cons_succ]
            refine wpAnyH_take (i := 23) (v := ?_) (by (simp only [List.getElem?_toArray, List.getElem?_cons_succ, List.getElem?_cons_zero]; rfl)) (by kernel_rfl) (by kernel_rfl) (by kernel_rfl) (by intro _ _ _ h; exact h) (Or.inl ⟨by rfl, ?_⟩) (by assumption) ?_
            rotate_left
            · (intro w hSw; (try dsimp only at hSw); go_simp; try (with_reducible rfl))
            simp only [Act.put, List.setIfInBounds_toArray, List.set_cons_zero, List.set_cons_succ]
            refine wpAnyH_take (i := 24) (v := undef) (by (simp only [List.getElem?_toArray, List.getElem?_cons_succ, List.getElem?_cons_zero]; rfl)) (by kernel_rfl) (by kernel_rfl) (by kernel_rfl) (by intro _ _ _ h; exact h) (Or.inr ⟨by rfl, rfl⟩) (by assumption) ?_
            simp only [Act.put, List.setIfInBounds_toArray, List.set_cons_zero, List.set_cons_succ]
            refine wpAnyH_take (i := 25) (v := undef) (by (simp only [List.getElem?_toArray, List.getElem?_cons_succ, List.getElem?_cons_zero]; rfl)) (by kernel_rfl) (by kernel_rfl) (by kernel_rfl) (by intro _ _ _ h; exact h) (Or.inr ⟨by rfl, rfl⟩) (by assumption) ?_
            simp only [Act.put, List.setIfInBounds_toArray, List.set_cons_zero, List.set_cons_succ]
            refine wpAnyH_take (i := 26) (v := undef) (by (simp only [List.getElem?_toArray, List.getElem?_cons_succ, List.getElem?_cons_zero]; rfl)) (by kernel_rfl) (by kernel_rfl) (by kernel_rfl) (by intro _ _ _ h; exact h) (Or.inr ⟨by rfl, rfl⟩) (by assumption) ?_
            simp only [Act.put, List.setIfInBounds_toArray, List.set_cons_zero, List.set_cons_succ]
            refine wpAnyH_take (i := 27) (v := ?_) (by (simp only [List.getElem?_toArray, List.getElem?_cons_succ, List.getElem?_cons_zero]; rfl)) (by kernel_rfl) (by kernel_rfl) (by kernel_rfl) (by intro _ _ _ h; exact h) (Or.inl ⟨by rfl, ?_⟩) (by assumption) ?_
            rotate_left
            · (intro w hSw; (try dsimp only at hSw); go_simp; try (with_reducible rfl))
            simp only [Act.put, List.setIfInBounds_toArray, List.set_cons_zero, List.set_cons_succ]
            refine wpAnyH_done (by kernel_rfl) ?_ _
            go_wp2_with fail
            go_meet
            exact ⟨_, HA2.out.mv hHeld, .inl ⟨rfl, HFIN.out⟩⟩
          · have hq47 : ((c.toNat : Int) == 47) = false := u8_ne2 (d := 47) h47
            by_cases h62 : c = 62
            · have hq62 : ((c.toNat : Int) == 62) = true := by rw [h62]; rfl
              have HFIN := Lib.hid (show attrsR (r.length + 1) [] r = .ok ats (c :: r3) by rw [HX.out, h62]; rfl)
              clear h47 h62
              refine wp_region_held_drew (S := (fun w1 => RM X l (c :: r3) 0 0 w2 w1)) (by kernel_rfl) (by (try dsimp only); exact RM.drew0 HA2.out.rr) (fun hHeld => ?_)
              generalize w2.drew = wd at hHeld ⊢
              refine wpAnyH_take (i := 0) (v := ?_) (by (simp only [List.getElem?_toArray, List.getElem?_cons_succ, List.getElem?_cons_zero]; rfl)) (by kernel_rfl) (by kernel_rfl) (by kernel_rfl) (by intro _ _ _ h; exact h) (Or.inl ⟨by rfl, ?_⟩) (by assumption) ?_
              rotate_left
              · (intro w hSw; (try dsimp only at hSw); go_simp; try (with_reducible rfl))
              simp only [Act.put, List.setIfInBounds_toArray, List.set_cons_zero, List.set_cons_succ]
              refine wpAnyH_take (i := 1) (v := ?_) (by (simp only [List.getElem?_toArray, List.getElem?_cons_succ, List.getElem?_cons_zero]; rfl)) (by kernel_rfl) (by kernel_rfl) (by kernel_rfl) (by intro _ _ _ h; exact h) (Or.inl ⟨by rfl, ?_⟩) (by assumption) ?_
              rotate_left
              · (intro w hSw; (try dsimp only at hSw); go_simp; try (with_reducible rfl))
              simp only [Act.put, List.setIfInBounds_toArray, List.set_cons_zero, List.set_cons_succ]
              refine wpAnyH_take (i := 2) (v := ?_) (by (simp only [List.getElem?_toArray, List.getElem?_cons_succ, List.getElem?_cons_zero]; rfl)) (by kernel_rfl) (by kernel_rfl) (by kernel_rfl) (by intro _ _ _ h; exact h) (Or.inl ⟨by rfl, ?_⟩) (by assumption) ?_
              rotate_left
              · (intro w hSw; (try dsimp only at hSw); go_simp; try (with_reducible rfl))
              simp only [Act.put, List.setIfInBounds_toArray, List.set_cons_zero, List.set_cons_succ]
              refine wpAnyH_take (i := 3) (v := ?_) (by (simp only [List.getElem?_toArray, List.getElem?_cons_succ, List.getElem?_cons_zero]; rfl)) (by kernel_rfl) (by kernel_rfl) (by kernel_rfl) (by intro _ _ _ h; exact h) (Or.inl ⟨by rfl, ?_⟩) (by assumption) ?_
              rotate_left
              · (intro w hSw; have q1 := C1.out w hSw; go_simp; try (with_reducible rfl))
              simp only [Act.put, List.setIfInBounds_toArray, List.set_cons_zero, List.set_cons_succ]
              refine wpAnyH_take (i := 4) (v := ?_) (by (simp only [List.getElem?_toArray, List.getElem?_cons_succ, List.getElem?_cons_zero]; rfl)) (by kernel_rfl) (by kernel_rfl) (by kernel_rfl) (by intro _ _ _ h; exact h) (Or.inl ⟨by rfl, ?_⟩) (by assumption) ?_
              rotate_left
              · (intro w hSw; (try dsimp only at hSw); go_simp; try (with_reducible rfl))
              simp only [Act.put, List.setIfInBounds_toArray, List.set_cons_zero, List.set_cons_succ]
              refine wpAnyH_take (i := 5) (v := ?_) (by (simp only [List.getElem?_toArray, List.getElem?_cons_succ, List.getElem?_cons_zero]; rfl)) (by kernel_rfl) (by kernel_rfl) (by kernel_rfl) (by intro _ _ _ h; exact h) (Or.inl ⟨by rfl, ?_⟩) (by assumption) ?_
              rotate_left
              · (intro w hSw; (try dsimp only at hSw); go_simp; try (with_reducible rfl))
              simp only [Act.put, List.setIfInBounds_toArray, List.set_cons_zero, List.set_cons_succ]
              refine wpAnyH_take (i := 6) (v := ?_) (by (simp only [List.getElem?_toArray, List.getElem?_cons_succ, List.getElem?_cons_zero]; rfl)) (by kernel_rfl) (by kernel_rfl) (by kernel_rfl) (by intro _ _ _ h; exact h) (Or.inl ⟨by rfl, ?_⟩) (by assumption) ?_
              rotate_left
              · (intro w hSw; (try dsimp only at hSw); go_simp; try (with_reducible rfl))
              simp only [Act.put, List.setIfInBounds_toArray, List.set_cons_zero, List.set_cons_succ]
              refine wpAnyH_take (i := 7) (v := ?_) (by (simp only [List.getElem?_toArray, List.getElem?_cons_succ, List.getElem?_cons_zero]; rfl)) (by kernel_rfl) (by kernel_rfl) (by kernel_rfl) (by intro _ _ _ h; exact h) (Or.inl ⟨by rfl, ?_⟩) (by assumption) ?_
              rotate_left
              · (intro w hSw; (try dsimp only at hSw); go_simp; try (with_reducible rfl))
              simp only [Act.put, List.setIfInBounds_toArray, List.set_cons_zero, List.set_cons_succ]
              refine wpAnyH_take (i := 8) (v := ?_) (by (simp only [List.getElem?_toArray, List.getElem?_cons_succ, List.getElem?_cons_zero]; rfl)) (by kernel_rfl) (by kernel_rfl) (by kernel_rfl) (by intro _ _ _ h; exact h) (Or.inl ⟨by rfl, ?_⟩) (by assumption) ?_
              rotate_left
              · (intro w hSw; (try dsimp only at hSw); go_simp; try (with_reducible rfl))
              simp only [Act.put, List.setIfInBounds_toArray, List.set_cons_zero, List.set_cons_succ]
              refine wpAnyH_take (i := 9) (v := ?_) (by (simp only [List.getElem?_toArray, List.getElem?_cons_succ, List.getElem?_cons_zero]; rfl)) (by kernel_rfl) (by kernel_rfl) (by kernel_rfl) (by intro _ _ _ h; exact h) (Or.inl ⟨by rfl, ?_⟩) (by assumption) ?_
              rotate_left
              · (intro w hSw; (try dsimp only at hSw); go_simp; try (with_reducible rfl))
              simp only [Act.put, List.setIfInBounds_toArray, List.set_cons_zero, List.set_cons_succ]
              refine wpAnyH_take (i := 10) (v := ?_) (by (simp only [List.getElem?_toArray, List.getElem?_cons_succ, List.getElem?_cons_zero]; rfl)) (by kernel_rfl) (by kernel_rfl) (by kernel_rfl) (by intro _ _ _ h; exact h) (Or.inl ⟨by rfl, ?_⟩) (by assumption) ?_
              rotate_left
              · (intro w hSw; have q1 := C1.out w hSw; go_simp; try (with_reducible rfl))
              simp only [Act.put, List.setIfInBounds_toArray, List.set_cons_zero, List.set_cons_succ]
              refine wpAnyH_take (i := 11) (v := ?_) (by (simp only [List.getElem?_toArray, List.getElem?_cons_succ, List.getElem?_cons_zero]; rfl)) (by kernel_rfl) (by kernel_rfl) (by kernel_rfl) (by intro _ _ _ h; exact h) (Or.inl ⟨by rfl, ?_⟩) (by assumption) ?_
              rotate_left
              · (intro w hSw; (try dsimp only at hSw); go_simp; try (with_reducible rfl))
              simp only [Act.put, List.setIfInBounds_toArray, List.set_cons_zero, List.set_cons_succ]
              refine wpAnyH_take (i := 12) (v := ?_) (by (simp only [List.getElem?_toArray, List.getElem?_cons_succ, List.getElem?_cons_zero]; rfl)) (by kernel_rfl) (by kernel_rfl) (by kernel_rfl) (by intro _ _ _ h; exact h) (Or.inl ⟨by rfl, ?_⟩) (by assumption) ?_
              rotate_left
              · (intro w hSw; (try dsimp only at hSw); go_simp; try (with_reducible rfl))
              simp only [Act.put, List.setIfInBounds_toArray, List.set_cons_zero, List.set_cons_succ]
              refine wpAnyH_take (i := 13) (v := ?_) (by (simp only [List.getElem?_toArray, List.getElem?_cons_succ, List.getElem?_cons_zero]; rfl)) (by kernel_rfl) (by kernel_rfl) (by kernel_rfl) (by intro _ _ _ h; exact h) (Or.inl ⟨by rfl, ?_⟩) (by assumption) ?_
              rotate_left
              · (intro w hSw; (try dsimp only at hSw); go_simp; try (with_reducible rfl))
              simp only [Act.put, List.setIfInBounds_toArray, List.set_cons_zero, List.set_cons_succ]
              refine wpAnyH_take (i := 14) (v := ?_) (by (simp only [List.getElem?_toArray, List.getElem?_cons_succ, List.getElem?_cons_zero]; rfl)) (by kernel_rfl) (by kernel_rfl) (by kernel_rfl) (by intro _ _ _ h; exact h) (Or.inl ⟨by rfl, ?_⟩) (by assumption) ?_
              rotate_left
              · (intro w hSw; have q1 := C0.out w hSw; go_simp; try (with_reducible rfl))
              simp only [Act.put, List.setIfInBounds_toArray, List.set_cons_zero, List.set_cons_succ]
              refine wpAnyH_take (i := 15) (v := ?_) (by (simp only [List.getElem?_toArray, List.getElem?_cons_succ, List.getElem?_cons_zero]; rfl)) (by kernel_rfl) (by kernel_rfl) (by kernel_rfl) (by intro _ _ _ h; exact h) (Or.inl ⟨by rfl, ?_⟩) (by assumption) ?_
              rotate_left
              · (intro w hSw; (try dsimp only at hSw); go_simp; try (with_reducible rfl))
              simp only [Act.put, List.setIfInBounds_toArray, List.set_cons_zero, List.set_cons_succ]
              refine wpAnyH_take (i := 16) (v := ?_) (by (simp only [List.getElem?_toArray, List.getElem?_cons_succ, List.getElem?_cons_zero]; rfl)) (by kernel_rfl) (by kernel_rfl) (by kernel_rfl) (by intro _ _ _ h; exact h) (Or.inl ⟨by rfl, ?_⟩) (by assumption) ?_
              rotate_left
              · (intro w hSw; (try dsimp only at hSw); go_simp; try (with_reducible rfl))
              simp only [Act.put, List.setIfInBounds_toArray, List.set_cons_zero, List.set_cons_succ]
              refine wpAnyH_take (i := 17) (v := ?_) (by (simp only [List.getElem?_toArray, List.getElem?_cons_succ, List.getElem?_cons_zero]; rfl)) (by kernel_rfl) (by kernel_rfl) (by kernel_rfl) (by intro _ _ _ h; exact h) (Or.inl ⟨by rfl, ?_⟩) (by assumption) ?_
              rotate_left
              · (intro w hSw; (try dsimp only at hSw); go_simp; try (with_reducible rfl))
              simp only [Act.put, List.setIfInBounds_toArray, List.set_cons_zero, List.set_cons_succ]
              refine wpAnyH_take (i := 18) (v := ?_) (by (simp only [List.getElem?_toArray, List.getElem?_cons_succ, List.getElem?_cons_zero]; rfl)) (by kernel_rfl) (by kernel_rfl) (by kernel_rfl) (by intro _ _ _ h; exact h) (Or.inl ⟨by rfl, ?_⟩) (by assumption) ?_
              rotate_left
              · (intro w hSw; (try dsimp only at hSw); go_simp; try (with_reducible rfl))
              simp only [Act.put, List.setIfInBounds_toArray, List.set_cons_zero, List.set_cons_succ]
              refine wpAnyH_take (i := 19) (v := ?_) (by (simp only [List.getElem?_toArray, List.getElem?_cons_succ, List.getElem?_cons_zero]; rfl)) (by kernel_rfl) (by kernel_rfl) (by kernel_rfl) (by intro _ _ _ h; exact h) (Or.inl ⟨by rfl, ?_⟩) (by assumption) ?_
              rotate_left
              · (intro w hSw; (try dsimp only at hSw); go_simp; try (with_reducible rfl))
              simp only [Act.put, List.setIfInBounds_toArray, List.set_cons_zero, List.set_cons_succ]
              refine wpAnyH_ready (rs := [20]) (by kernel_rfl) (by simp) ?_
              refine AllReadyH.cons (by (simp only [List.getElem?_toArray, List.getElem?_cons_succ, List.getElem?_cons_zero]; rfl)) (fun K hK => ?_) AllReadyH.nil
              go_simp
              go_at_call 65; refine (HAT.out _ hHeld).mono ?_; rintro e w6 ⟨rfl, hm6⟩
              refine hK.out _ _ (by (try dsimp only); exact hHeld.trans hm6) (fun hHeld => ?_)
              clear hK K
              try simp only [Act.put, List.setIfInBounds_toArray, List.set_cons_zero, List.set_cons_succ]
              clear hm6
              refine wpAnyH_take (i := 21) (v := ?_) (by (simp only [List.getElem?_toArray, List.getElem?_cons_succ, List.getElem?_cons_zero]; rfl)) (by kernel_rfl) (by kernel_rfl) (by kernel_rfl) (by intro _ _ _ h; exact h) (Or.inl ⟨by rfl, ?_⟩) (by assumption) ?_
              rotate_left
              · (intro w hSw; (try dsimp only at hSw); go_simp; try (with_reducible rfl))
              simp only [Act.put, List.setIfInBounds_toArray, List.set_cons_zero, List.set_cons_succ]
              refine wpAnyH_take (i := 22) (v := ?_) (by (simp only [List.getElem?_toArray, List.getElem?_cons_succ, List.getElem?_cons_zero]; rfl)) (by kernel_rfl) (by kernel_rfl) (by kernel_rfl) (by intro _ _ _ h; exact h) (Or.inl ⟨by rfl, ?_⟩) (by assumption) ?_
              rotate_left
              · (intro w hSw; (try dsimp only at hSw); go_simp; try (with_reducible rfl))
              simp only [Act.put, List.setIfInBounds_toArray, List.set_cons_zero, List.set_cons_succ]
              refine wpAnyH_take (i := 23) (v := ?_) (by (simp only [List.getElem?_toArray, List.getElem?_cons_succ, List.getElem?_cons_zero]; rfl)) (by kernel_rfl) (by kernel_rfl) (by kernel_rfl) (by intro _ _ _ h; exact h) (Or.inl ⟨by rfl, ?_⟩) (by assumption) ?_
              rotate_left
              · (intro w hSw; (try dsimp only at hSw); go_simp; try (with_reducible rfl))
              simp only [Act.put, List.setIfInBounds_toArray, List.set_cons_zero, List.set_cons_succ]
              refine wpAnyH_take (i := 24) (v := ?_) (by (simp only [List.getElem?_toArray, List.getElem?_cons_succ, List.getElem?_cons_zero]; rfl)) (by kernel_rfl) (by kernel_rfl) (by kernel_rfl) (by intro _ _ _ h; exact h) (Or.inl ⟨by rfl, ?_⟩) (by assumption) ?_
              rotate_left
              · (intro w hSw; (try dsimp only at hSw); go_simp; try (with_reducible rfl))
              simp only [Act.put, List.setIfInBounds_toArray, List.set_cons_zero, List.set_cons_succ]
              refine wpAnyH_ready (rs := [25]) (by kernel_rfl) (by simp) ?_
              refine AllReadyH.cons (by (simp only [List.getElem?_toArray, List.getElem?_cons_succ, List.getElem?_cons_zero]; rfl)) (fun K hK => ?_) AllReadyH.nil
              go_simp
              go_at_call 65; refine (HAT.out _ hHeld).mono ?_; rintro e w6 ⟨rfl, hm6⟩
              refine hK.out _ _ (by (try dsimp only); exact hHeld.trans hm6) (fun hHeld => ?_)
              clear hK K
              try simp only [Act.put, List.setIfInBounds_toArray, List.set_cons_zero, List.set_cons_succ]
              clear hm6
              refine wpAnyH_take (i := 26) (v := ?_) (by (simp only [List.getElem?_toArray, List.getElem?_cons_succ, List.getElem?_cons_zero]; rfl)) (by kernel_rfl) (by kernel_rfl) (by kernel_rfl) (by intro _ _ _ h; exact h) (Or.inl ⟨by rfl, ?_⟩) (by assumption) ?_
              rotate_left
              · (intro w hSw; (try dsimp only at hSw); go_simp; try (with_reducible rfl))
              simp only [Act.put, List.setIfInBounds_toArray, List.set_cons_zero, List.set_cons_succ]
              refine wpAnyH_take (i := 27) (v := ?_) (by (simp only [List.getElem?_toArray, List.getElem?_cons_succ, List.getElem?_cons_zero]; rfl)) (by kernel_rfl) (by kernel_rfl) (by kernel_rfl) (by intro _ _ _ h; exact h) (Or.inl ⟨by rfl, ?_⟩) (by assumption) ?_
              rotate_left
              · (intro w hSw; (try dsimp only at hSw); go_simp; try (with_reducible rfl))
              simp only [Act.put, List.setIfInBounds_toArray, List.set_cons_zero, List.set_cons_succ]
              refine wpAnyH_done (by kernel_rfl) ?_ _
              go_wp2_with fail
              go_meet
              exact ⟨_, HA2.out.mv hHeld, .inl ⟨rfl, HFIN.out⟩⟩
            · have hq62 : ((c.toNat : Int) == 62) = false := u8_ne2 (d := 62) h62
              have HFIN := Lib.hid (show (attrM ats (c :: r3)).bind (fun a r4 => attrsR g (ats ++ [a]) r4) = attrsR (r.length + 1) [] r by
                rw [HX.out]
                show _ = ite _ _ _
                rw [if_neg (by simp [h47, h62])])
              clear h47 h62
              refine wp_region_held_drew (S := (fun w1 => RM X l (c :: r3) 0 0 w2 w1)) (by kernel_rfl) (by (try dsimp only); exact RM.drew0 HA2.out.rr) (fun hHeld => ?_)
              generalize w2.drew = wd at hHeld ⊢
              refine wpAnyH_take (i := 0) (v := ?_) (by (simp only [List.getElem?_toArray, List.getElem?_cons_succ, List.getElem?_cons_zero]; rfl)) (by kernel_rfl) (by kernel_rfl) (by kernel_rfl) (by intro _ _ _ h; exact h) (Or.inl ⟨by rfl, ?_⟩) (by assumption) ?_
              rotate_left
              · (intro w hSw; (try dsimp only at hSw); go_simp; try (with_reducible rfl))
              simp only [Act.put, List.setIfInBounds_toArray, List.set_cons_zero, List.set_cons_succ]
              refine wpAnyH_take (i := 1) (v := ?_) (by (simp only [List.getElem?_toArray, List.getElem?_cons_succ, List.getElem?_cons_zero]; rfl)) (by kernel_rfl) (by kernel_rfl) (by kernel_rfl) (by intro _ _ _ h; exact h) (Or.inl ⟨by rfl, ?_⟩) (by assumption) ?_
              rotate_left
              · (intro w hSw; (try dsimp only at hSw); go_simp; try (with_reducible rfl))
              simp only [Act.put, List.setIfInBounds_toArray, List.set_cons_zero, List.set_cons_succ]
              refine wpAnyH_take (i := 2) (v := ?_) (by (simp only [List.getElem?_toArray, List.getElem?_cons_succ, List.getElem?_cons_zero]; rfl)) (by kernel_rfl) (by kernel_rfl) (by kernel_rfl) (by intro _ _ _ h; exact h) (Or.inl ⟨by rfl, ?_⟩) (by assumption) ?_
              rotate_left
              · (intro w hSw; (try dsimp only at hSw); go_simp; try (with_reducible rfl))
              simp only [Act.put, List.setIfInBounds_toArray, List.set_cons_zero, List.set_cons_succ]
              refine wpAnyH_take (i := 3) (v := ?_) (by (simp only [List.getElem?_toArray, List.getElem?_cons_succ, List.getElem?_cons_zero]; rfl)) (by kernel_rfl) (by kernel_rfl) (by kernel_rfl) (by intro _ _ _ h; exact h) (Or.inl ⟨by rfl, ?_⟩) (by assumption) ?_
              rotate_left
              · (intro w hSw; have q1 := C1.out w hSw; go_simp; try (with_reducible rfl))
              simp only [Act.put, List.setIfInBounds_toArray, List.set_cons_zero, List.set_cons_succ]
              refine wpAnyH_take (i := 4) (v := ?_) (by (simp only [List.getElem?_toArray, List.getElem?_cons_succ, List.getElem?_cons_zero]; rfl)) (by kernel_rfl) (by kernel_rfl) (by kernel_rfl) (by intro _ _ _ h; exact h) (Or.inl ⟨by rfl, ?_⟩) (by assumption) ?_
              rotate_left
              · (intro w hSw; (try dsimp only at hSw); go_simp; try (with_reducible rfl))
              simp only [Act.put, List.setIfInBounds_toArray, List.set_cons_zero, List.set_cons_succ]
              refine wpAnyH_take (i := 5) (v := ?_) (by (simp only [List.getElem?_toArray, List.getElem?_cons_succ, List.getElem?_cons_zero]; rfl)) (by kernel_rfl) (by kernel_rfl) (by kernel_rfl) (by intro _ _ _ h; exact h) (Or.inl ⟨by rfl, ?_⟩) (by assumption) ?_
              rotate_left
              · (intro w hSw; (try dsimp only at hSw); go_simp; try (with_reducible rfl))
              simp only [Act.put, List.setIfInBounds_toArray, List.set_cons_zero, List.set_cons_succ]
              refine wpAnyH_take (i := 6) (v := ?_) (by (simp only [List.getElem?_toArray, List.getElem?_cons_succ, List.getElem?_cons_zero]; rfl)) (by kernel_rfl) (by kernel_rfl) (by kernel_rfl) (by intro _ _ _ h; exact h) (Or.inl ⟨by rfl, ?_⟩) (by assumption) ?_
              rotate_left
              · (intro w hSw; (try dsimp only at hSw); go_simp; try (with_reducible rfl))
              simp only [Act.put, List.setIfInBounds_toArray, List.set_cons_zero, List.set_cons_succ]
              refine wpAnyH_take (i := 7) (v := ?_) (by (simp only [List.getElem?_toArray, List.getElem?_cons_succ, List.getElem?_cons_zero]; rfl)) (by kernel_rfl) (by kernel_rfl) (by kernel_rfl) (by intro _ _ _ h; exact h) (Or.inl ⟨by rfl, ?_⟩) (by assumption) ?_
              rotate_left
              · (intro w hSw; (try dsimp only at hSw); go_simp; try (with_reducible rfl))
              simp only [Act.put, List.setIfInBounds_toArray, List.set_cons_zero, List.set_cons_succ]
              refine wpAnyH_take (i := 8) (v := ?_) (by (simp only [List.getElem?_toArray, List.getElem?_cons_succ, List.getElem?_cons_zero]; rfl)) (by kernel_rfl) (by kernel_rfl) (by kernel_rfl) (by intro _ _ _ h; exact h) (Or.inl ⟨by rfl, ?_⟩) (by assumption) ?_
              rotate_left
              · (intro w hSw; (try dsimp only at hSw); go_simp; try (with_reducible rfl))
              simp only [Act.put, List.setIfInBounds_toArray, List.set_cons_zero, List.set_cons_succ]
              refine wpAnyH_take (i := 9) (v := ?_) (by (simp only [List.getElem?_toArray, List.getElem?_cons_succ, List.getElem?_cons_zero]; rfl)) (by kernel_rfl) (by kernel_rfl) (by kernel_rfl) (by intro _ _ _ h; exact h) (Or.inl ⟨by rfl, ?_⟩) (by assumption) ?_
              rotate_left
              · (intro w hSw; (try dsimp only at hSw); go_simp; try (with_reducible rfl))
              simp only [Act.put, List.setIfInBounds_toArray, List.set_cons_zero, List.set_cons_succ]
              refine wpAnyH_take (i := 10) (v := ?_) (by (simp only [List.getElem?_toArray, List.getElem?_cons_succ, List.getElem?_cons_zero]; rfl)) (by kernel_rfl) (by kernel_rfl) (by kernel_rfl) (by intro _ _ _ h; exact h) (Or.inl ⟨by rfl, ?_⟩) (by assumption) ?_
              rotate_left
              · (intro w hSw; have q1 := C1.out w hSw; go_simp; try (with_reducible rfl))
              simp only [Act.put, List.setIfInBounds_toArray, List.set_cons_zero, List.set_cons_succ]
              refine wpAnyH_take (i := 11) (v := ?_) (by (simp only [List.getElem?_toArray, List.getElem?_cons_succ, List.getElem?_cons_zero]; rfl)) (by kernel_rfl) (by kernel_rfl) (by kernel_rfl) (by intro _ _ _ h; exact h) (Or.inl ⟨by rfl, ?_⟩) (by assumption) ?_
              rotate_left
              · (intro w hSw; (try dsimp only at hSw); go_simp; try (with_reducible rfl))
              simp only [Act.put, List.setIfInBounds_toArray, List.set_cons_zero, List.set_cons_succ]
              refine wpAnyH_take (i := 12) (v := ?_) (by (simp only [List.getElem?_toArray, List.getElem?_cons_succ, List.getElem?_cons_zero]; rfl)) (by kernel_rfl) (by kernel_rfl) (by kernel_rfl) (by intro _ _ _ h; exact h) (Or.inl ⟨by rfl, ?_⟩) (by assumption) ?_
              rotate_left
              · (intro w hSw; (try dsimp only at hSw); go_simp; try (with_reducible rfl))
              simp only [Act.put, List.setIfInBounds_toArray, List.set_cons_zero, List.set_cons_succ]
              refine wpAnyH_take (i := 13) (v := ?_) (by (simp only [List.getElem?_toArray, List.getElem?_cons_succ, List.getElem?_cons_zero]; rfl)) (by kernel_rfl) (by kernel_rfl) (by kernel_rfl) (by intro _ _ _ h; exact h) (Or.inl ⟨by rfl, ?_⟩) (by assumption) ?_
              rotate_left
              · (intro w hSw; (try dsimp only at hSw); go_simp; try (with_reducible rfl))
              simp only [Act.put, List.setIfInBounds_toArray, List.set_cons_zero, List.set_cons_succ]
              refine wpAnyH_take (i := 14) (v := ?_) (by (simp only [List.getElem?_toArray, List.getElem?_cons_succ, List.getElem?_cons_zero]; rfl)) (by kernel_rfl) (by kernel_rfl) (by kernel_rfl) (by intro _ _ _ h; exact h) (Or.inl ⟨by rfl, ?_⟩) (by assumption) ?_
              rotate_left
              · (intro w hSw; have q1 := C0.out w hSw; go_simp; try (with_reducible rfl))
              simp only [Act.put, List.setIfInBounds_toArray, List.set_cons_zero, List.set_cons_succ]
              refine wpAnyH_take (i := 15) (v := ?_) (by (simp only [List.getElem?_toArray, List.getElem?_cons_succ, List.getElem?_cons_zero]; rfl)) (by kernel_rfl) (by kernel_rfl) (by kernel_rfl) (by intro _ _ _ h; exact h) (Or.inl ⟨by rfl, ?_⟩) (by assumption) ?_
              rotate_left
              · (intro w hSw; (try dsimp only at hSw); go_simp; try (with_reducible rfl))
              simp only [Act.put, List.setIfInBounds_toArray, List.set_cons_zero, List.set_cons_succ]
              refine wpAnyH_take (i := 16) (v := ?_) (by (simp only [List.getElem?_toArray, List.getElem?_cons_succ, List.getElem?_cons_zero]; rfl)) (by kernel_rfl) (by kernel_rfl) (by kernel_rfl) (by intro _ _ _ h; exact h) (Or.inl ⟨by rfl, ?_⟩) (by assumption) ?_
              rotate_left
              · (intro w hSw; (try dsimp only at hSw); go_simp; try (with_reducible rfl))
              simp only [Act.put, List.setIfInBounds_toArray, List.set_cons_zero, List.set_cons_succ]
              refine wpAnyH_take (i := 17) (v := ?_) (by (simp only [List.getElem?_toArray, List.getElem?_cons_succ, List.getElem?_cons_zero]; rfl)) (by kernel_rfl) (by kernel_rfl) (by kernel_rfl) (by intro _ _ _ h; exact h) (Or.inl ⟨by rfl, ?_⟩) (by assumption) ?_
              rotate_left
              · (intro w hSw; (try dsimp only at hSw); go_simp; try (with_reducible rfl))
              simp only [Act.put, List.setIfInBounds_toArray, List.set_cons_zero, List.set_cons_succ]
              refine wpAnyH_take (i := 18) (v := ?_) (by (simp only [List.getElem?_toArray, List.getElem?_cons_succ, List.getElem?_cons_zero]; rfl)) (by kernel_rfl) (by kernel_rfl) (by kernel_rfl) (by intro _ _ _ h; exact h) (Or.inl ⟨by rfl, ?_⟩) (by assumption) ?_
              rotate_left
              · (intro w hSw; (try dsimp only at hSw); go_simp; try (with_reducible rfl))
              simp only [Act.put, List.setIfInBounds_toArray, List.set_cons_zero, List.set_cons_succ]
              refine wpAnyH_take (i := 19) (v := ?_) (by (simp only [List.getElem?_toArray, List.getElem?_cons_succ, List.getElem?_cons_zero]; rfl)) (by kernel_rfl) (by kernel_rfl) (by kernel_rfl) (by intro _ _ _ h; exact h) (Or.inl ⟨by rfl, ?_⟩) (by assumption) ?_
              rotate_left
              · (intro w hSw; (try dsimp only at hSw); go_simp; try (with_reducible rfl))
              simp only [Act.put, List.setIfInBounds_toArray, List.set_cons_zero, List.set_cons_succ]
              refine wpAnyH_ready (rs := [20]) (by kernel_rfl) (by simp) ?_
              refine AllReadyH.cons (by (simp only [List.getElem?_toArray, List.getElem?_cons_succ, List.getElem?_cons_zero]; rfl)) (fun K hK => ?_) AllReadyH.nil
              go_simp
              go_at_call 65; refine (HAT.out _ hHeld).mono ?_; rintro e w6 ⟨rfl, hm6⟩
              refine hK.out _ _ (by (try dsimp only); exact hHeld.trans hm6) (fun hHeld => ?_)
              clear hK K
              try simp only [Act.put, List.setIfInBounds_toArray, List.set_cons_zero, List.set_cons_succ]
              clear hm6
              refine wpAnyH_take (i := 21) (v := ?_) (by (simp only [List.getElem?_toArray, List.getElem?_cons_succ, List.getElem?_cons_zero]; rfl)) (by kernel_rfl) (by kernel_rfl) (by kernel_rfl) (by intro _ _ _ h; exact h) (Or.inl ⟨by rfl, ?_⟩) (by assumption) ?_
              rotate_left
              · (intro w hSw; (try dsimp only at hSw); go_simp; try (with_reducible rfl))
              simp only [Act.put, List.setIfInBounds_toArray, List.set_cons_zero, List.set_cons_succ]
              refine wpAnyH_take (i := 22) (v := ?_) (by (simp only [List.getElem?_toArray, List.getElem?_cons_succ, List.getElem?_cons_zero]; rfl)) (by kernel_rfl) (by kernel_rfl) (by kernel_rfl) (by intro _ _ _ h; exact h) (Or.inl ⟨by rfl, ?_⟩) (by assumption) ?_
              rotate_left
              · (intro w hSw; (try dsimp only at hSw); go_simp; try (with_reducible rfl))
              simp only [Act.put, List.setIfInBounds_toArray, List.set_cons_zero, List.set_cons_succ]
              refine wpAnyH_take (i := 23) (v := ?_) (by (simp only [List.getElem?_toArray, List.getElem?_cons_succ, List.getElem?_cons_zero]; rfl)) (by kernel_rfl) (by kernel_rfl) (by kernel_rfl) (by intro _ _ _ h; exact h) (Or.inl ⟨by rfl, ?_⟩) (by assumption) ?_
              rotate_left
              · (intro w hSw; (try dsimp only at hSw); go_simp; try (with_reducible rfl))
              simp only [Act.put, List.setIfInBounds_toArray, List.set_cons_zero, List.set_cons_succ]
              refine wpAnyH_take (i := 24) (v := ?_) (by (simp only [List.getElem?_toArray, List.getElem?_cons_succ, List.getElem?_cons_zero]; rfl)) (by kernel_rfl) (by kernel_rfl) (by kernel_rfl) (by intro _ _ _ h; exact h) (Or.inl ⟨by rfl, ?_⟩) (by assumption) ?_
              rotate_left
              · (intro w hSw; (try dsimp only at hSw); go_simp; try (with_reducible rfl))
              simp only [Act.put, List.setIfInBounds_toArray, List.set_cons_zero, List.set_cons_succ]
              refine wpAnyH_ready (rs := [25]) (by kernel_rfl) (by simp) ?_
              refine AllReadyH.cons (by (simp only [List.getElem?_toArray, List.getElem?_cons_succ, List.getElem?_cons_zero]; rfl)) (fun K hK => ?_) AllReadyH.nil
              go_simp
              go_at_call 65; refine (HAT.out _ hHeld).mono ?_; rintro e w6 ⟨rfl, hm6⟩
              refine hK.out _ _ (by (try dsimp only); exact hHeld.trans hm6) (fun hHeld => ?_)
              clear hK K
              try simp only [Act.put, List.setIfInBounds_toArray, List.set_cons_zero, List.set_cons_succ]
              clear hm6
              refine wpAnyH_take (i := 26) (v := ?_) (by (simp only [List.getElem?_toArray, List.getElem?_cons_succ, List.getElem?_cons_zero]; rfl)) (by kernel_rfl) (by kernel_rfl) (by kernel_rfl) (by intro _ _ _ h; exact h) (Or.inl ⟨by rfl, ?_⟩) (by assumption) ?_
              rotate_left
              · (intro w hSw; (try dsimp only at hSw); go_simp; try (with_reducible rfl))
              simp only [Act.put, List.setIfInBounds_toArray, List.set_cons_zero, List.set_cons_succ]
              refine wpAnyH_take (i := 27) (v := ?_) (by (simp only [List.getElem?_toArray, List.getElem?_cons_succ, List.getElem?_cons_zero]; rfl)) (by kernel_rfl) (by kernel_rfl) (by kernel_rfl) (by intro _ _ _ h; exact h) (Or.inl ⟨by rfl, ?_⟩) (by assumption) ?_
              rotate_left
              · (intro w hSw; (try dsimp only at hSw); go_simp; try (with_reducible rfl))
              simp only [Act.put, List.setIfInBounds_toArray, List.set_cons_zero, List.set_cons_succ]
              refine wpAnyH_done (by kernel_rfl) ?_ _
              go_wp2_with fail
              go_meet
              exact ⟨_, HA2.out.mv hHeld, .inr ⟨rfl, c, r3, rfl, HLT.out, HFIN.out⟩⟩
    case rest =>
      obtain ⟨r2, hac, ⟨rfl, hfin⟩ | ⟨rfl, c, r3, rfl, hlt, hnx⟩⟩ := hcut
      · have HFIN := Lib.hid hfin
        have HAC := Lib.hid hac
        clear hfin hac
        go_wp2
        go_ret
        rw [HFIN.out]
        exact ⟨_, rfl, HAC.out⟩
      have HLT := Lib.hid hlt
      have HNX := Lib.hid hnx
      have HAC := Lib.hid hac
      obtain ⟨c0, c1, c2, c3⟩ := hac.rr.cells
      obtain ⟨k, hk⟩ : ∃ k, k = l.length - (c :: r3).length := ⟨_, rfl⟩
      rw [← hk] at c1
      have HK := Lib.hid hk
      have hkI : (k : Int) ≤ 1000000 := by have := suf_len hac.rr.1; omega
      have HNM := Lib.hid ((rname_at X l (c :: r3) 10 hl wc hac.rr).mono fun e w' h => name_two (by decide) h)
      clear hlt hnx hac hk
      go_upto_region 8 with fail
      clear c0 c1 c2 c3
      go_wp2_with fail
      refine HNM.out.mono ?_
      rintro e w3 ⟨n, e0, o0, r5, rfl, hm3, hnm⟩
      have HA3 := Lib.hid (HAC.out.mv hm3)
      have HNM2 := Lib.hid hnm
      have HE0 := Lib.hid (show e0 = 0 → o0 = 0 from fun h => hnm.elim (fun h2 => h2.2.1) (fun h2 => absurd h h2.1))
      clear hm3 HNM hnm
      go_wp2_with fail
      go_loopw [59] (fun i wr2 => ∃ q : Nat, q ≤ ats.length ∧ i = .int .i64 q ∧ RA w X l r5 (dupC e0 ((ats.take q).any (fun a => a.1 == n))) (dupO e0 o0 (k : Int) ((ats.take q).any (fun a => a.1 == n))) ats (.slice aa ats.length ac) wr2) (fun i _ => ats.length - (intOf i).toNat)
      case atStart =>
        refine ⟨0, by omega, rfl, ?_⟩
        have := dup_0 (c0 := e0) (o0 := o0) (at0 := (k : Int)) HE0.out
        show RA w X l r5 (dupC e0 false) (dupO e0 o0 (k : Int) false) ats _ _
        rw [this.1, this.2]
        exact HA3.out
      case round =>
        obtain ⟨q, hq, rfl, hra⟩ := hrel
        by_cases hlt : q < ats.length
        · obtain ⟨x, hx⟩ : ∃ x, ats[q]? = some x := ⟨_, List.getElem?_eq_getElem hlt⟩
          obtain ⟨a1, e1, d0, d1⟩ := RdSl.elem hra.rd hx
          subst e1
          have hsn := any_snoc2 (n := n) hx
          generalize (ats.take q).any (fun a => a.1 == n) = b at hra hsn
          have HSN := Lib.hid hsn
          obtain ⟨wb, hwb⟩ : ∃ wb, wb = wr.alloc (.cells #[.string (str x.1), .string (str x.2)] 68) := ⟨_, rfl⟩
          have hbb : Below wr.heap.size wr wb := by rw [hwb]; exact (Below.refl _ _).alloc (Nat.le_refl _) _
          have hnew : wb.heap[wr.heap.size]? = some (.cells #[.string (str x.1), .string (str x.2)] 68 (0, 0)) := by rw [hwb]; exact heap_alloc_new wr _
          have hrb := hra.below hbb
          have HRB := Lib.hid hrb
          have HWB := Lib.hid hwb
          have hqI : (q : Int) < (ats.length : Int) := by omega
          clear hra hwb hbb hsn hx
          generalize hcc : dupC e0 b = c' at hrb HRB
          generalize hoo : dupO e0 o0 (k : Int) b = o' at hrb HRB
          have HCC := Lib.hid hcc
          have HOO := Lib.hid hoo
          obtain ⟨c0, c1, c2, c3⟩ := hrb.rr.cells
          have y0 : wb.cell? ⟨wr.heap.size, 0, none⟩ = some (.string (str x.1)) := by rw [cell_of_row wb _ 0 _ _ (0, 0) hnew]; rfl
          clear hrb hnew hcc hoo
          go_upto_region 12 with fail
          rw [← HWB.out]
          clear d0 d1
          by_cases he : x.1 = n
          · have heq : ((str x.1).toList == (str n).toList) = true := by rw [he]; simp
            have HE := Lib.hid he
            clear he
            by_cases hc0 : c' = 0
            · subst hc0
              have HF := Lib.hid (rfail_yes X l r5 o' 15 (k : Int) wb HRB.out.rr)
              have hd := dup_new (o0 := o0) (at0 := (k : Int)) HCC.out
              have HD1 := Lib.hid hd.1
              have HD2 := Lib.hid hd.2
              clear hd
              go_wp2_with fail
              refine HF.out.mono ?_
              rintro e w7 ⟨rfl, hm7⟩
              have HA7 := Lib.hid (HRB.out.mv hm7)
              clear hm7
              go_wp2
              go_roundw
              case rel => exact ⟨q + 1, by omega, by go_num, by rw [HSN.out, HE.out, beq_self_eq_true, Bool.or_true, HD1.out, HD2.out]; exact HA7.out⟩
              case measure => simp [intOf]; omega
            · have hcb : (c' == 0) = false := by simpa using hc0
              have hd := dup_stay (c0 := e0) (o0 := o0) (at0 := (k : Int)) (b := b) (by rw [HCC.out]; exact hc0)
              have HD1 := Lib.hid hd.1
              have HD2 := Lib.hid hd.2
              clear hd hc0
              go_wp2
              go_roundw
              case rel => exact ⟨q + 1, by omega, by go_num, by rw [HSN.out, HE.out, beq_self_eq_true, Bool.or_true, HD1.out, HD2.out, HCC.out, HOO.out]; exact HRB.out⟩
              case measure => simp [intOf]; omega
          · have heq : ((str x.1).toList == (str n).toList) = false := by rw [beq_eq_false_iff_ne]; exact fun h => he (strEq.1 h)
            have HE := Lib.hid (show (x.1 == n) = false by simpa using he)
            clear he
            go_wp2
            go_roundw
            case rel => exact ⟨q + 1, by omega, by go_num, by rw [HSN.out, HE.out, Bool.or_false, HCC.out, HOO.out]; exact HRB.out⟩
            case measure => simp [intOf]; omega
        · have hle : (ats.length : Int) ≤ q := by omega
          have hta : ats.take q = ats := List.take_of_length_le (by omega)
          rw [hta] at hra
          clear hta hq hlt
          generalize hanb : ats.any (fun a => a.1 == n) = b at hra
          have HANB := Lib.hid hanb
          clear hanb
          obtain ⟨c0, c1, c2, c3⟩ := hra.rr.cells
          have HRA := Lib.hid hra
          clear hra
          rcases HNM2.out with ⟨h1, h2, hM⟩ | ⟨h1, h2, r6, hM, h3⟩
          case inr =>
            have hdc : dupC e0 b = e0 := by unfold dupC; rw [if_neg h1]
            have hdo : dupO e0 o0 (k : Int) b = o0 := by unfold dupO; rw [if_neg h1]
            rw [hdc] at c2 HRA
            rw [hdo] at c3 HRA
            have HFIN := Lib.hid (show attrsR (r.length + 1) [] r = .bad e0 r6 by rw [← HNX.out]; unfold attrM; rw [hM]; rfl)
            have hne : (e0 != 0) = true := by simpa using h1
            have HO0 := Lib.hid h3
            clear h1 h2 h3 hM hdc hdo
            go_wp2
            go_ret
            rw [HFIN.out]
            exact ⟨rfl, r5, by rw [← HO0.out]; exact HRA.out.rm⟩
          subst h1
          subst h2
          cases b with
          | true =>
            have HFIN := Lib.hid (show attrsR (r.length + 1) [] r = .bad 15 (c :: r3) by rw [← HNX.out]; unfold attrM; rw [hM]; show (ite _ _ _ : Rs At2).bind _ = _; rw [if_pos HANB.out]; rfl)
            have hdc : dupC 0 true = 15 := rfl
            have hdo : dupO 0 0 (k : Int) true = (k : Int) := rfl
            rw [hdc] at c2 HRA
            rw [hdo] at c3 HRA
            clear hM hdc hdo
            go_wp2
            go_ret
            rw [HFIN.out]
            exact ⟨rfl, r5, by rw [← HK.out]; exact HRA.out.rm⟩
          | false =>
            have hdc : dupC 0 false = 0 := rfl
            have hdo : dupO 0 0 (k : Int) false = 0 := rfl
            rw [hdc] at c2 HRA
            rw [hdo] at c3 HRA
            have HNX2 := Lib.hid (show ((mustM 61 (blanksM r5)).bind fun _ r2 =>
                match blanksM r2 with
                | [] => .bad 13 []
                | q :: r3 => if q = 34 || q = 39 then (letM q false (r3.length + 1) [] r3).bind fun v r4 => .ok (n, v) (r4.drop 1) else .bad 10 (q :: r3) : Rs At2).bind (fun a r4 => attrsR g (ats ++ [a]) r4) = attrsR (r.length + 1) [] r by
              rw [← HNX.out]
              unfold attrM
              rw [hM]
              show _ = (ite _ _ _ : Rs At2).bind _
              rw [if_neg (by rw [HANB.out]; decide)]
              rfl)
            have HL5 := Lib.hid (nm_len hM)
            have HBL := Lib.hid (rblanks_at X l r5 0 0 hl _ HRA.out.rr)
            clear hM hdc hdo
            go_wp2_with fail
            refine HBL.out.mono ?_
            rintro e w4 ⟨rfl, hm4⟩
            have HA4 := Lib.hid (HRA.out.mv hm4)
            have HWT := Lib.hid (rwant_at X l (blanksM r5) 61 hl _ HA4.out.rr)
            clear hm4 HBL c0 c1 c2 c3
            have HB5 := Lib.hid (blanks_len r5)
            cases hM : mustM 61 (blanksM r5) with
            | bad e6 r6 =>
              have he6 := ne_must 61 _ _ _ hM
              have HFIN := Lib.hid (show attrsR (r.length + 1) [] r = .bad e6 r6 by rw [← HNX2.out, hM]; rfl)
              rw [hM] at HWT
              have hcb : (e6 == 0) = false := by simpa using he6
              have HCB := Lib.hid hcb
              clear hM he6 hcb
              go_wp2_with fail
              refine HWT.out.mono ?_
              rintro e w5 ⟨rfl, r7, hm5⟩
              have HA5 := Lib.hid (HA4.out.mv hm5)
              have HBL2 := Lib.hid (rblanks_at X l r7 e6 _ hl _ hm5.1)
              clear hm5 HWT
              go_wp2_with fail
              refine HBL2.out.mono ?_
              rintro e w6 ⟨rfl, hm6⟩
              have HA6 := Lib.hid (HA5.out.mv hm6)
              have HEN := Lib.hid (rend_bad X l _ e6 _ HCB.out _ hm6.1)
              clear hm6 HBL2
              go_wp2_with fail
              refine HEN.out.mono ?_
              rintro e w7 ⟨rfl, hm7⟩
              have HA7 := Lib.hid (HA6.out.mv hm7)
              clear hm7 HEN
              go_wp2
              go_ret
              rw [HFIN.out]
              exact ⟨rfl, _, HA7.out.rm⟩
            | ok u r6 =>
              have HL6 := Lib.hid (ok_len hM (must_left 61 _))
              have HNX3 := Lib.hid (show (match blanksM r6 with
                | [] => .bad 13 []
                | q :: r3 => if q = 34 || q = 39 then (letM q false (r3.length + 1) [] r3).bind fun v r4 => .ok (n, v) (r4.drop 1) else .bad 10 (q :: r3) : Rs At2).bind (fun a r4 => attrsR g (ats ++ [a]) r4) = attrsR (r.length + 1) [] r by
                rw [← HNX2.out, hM]; rfl)
              rw [hM] at HWT
              clear hM
              go_wp2_with fail
              refine HWT.out.mono ?_
              rintro e w5 ⟨rfl, hm5⟩
              have HA5 := Lib.hid (HA4.out.mv hm5)
              have HBL2 := Lib.hid (rblanks_at X l r6 0 0 hl _ hm5.1)
              clear hm5 HWT
              go_wp2_with fail
              refine HBL2.out.mono ?_
              rintro e w6 ⟨rfl, hm6⟩
              have HA6 := Lib.hid (HA5.out.mv hm6)
              have HL7 := Lib.hid (blanks_len r6)
              clear hm6 HBL2
              generalize blanksM r6 = rb at HA6 HNX3 HL7
              have HEN := Lib.hid (rend_ok X l rb _ HA6.out.rr)
              go_wp2_with fail
              refine HEN.out.mono ?_
              rintro e w7 ⟨rfl, hm7, hm7b⟩
              cases rb with
              | nil =>
                have HA7 := Lib.hid (HA6.out.mv (hm7 rfl))
                have HFIN := Lib.hid (show attrsR (r.length + 1) [] r = .bad 13 [] by rw [← HNX3.out]; rfl)
                clear hm7 hm7b HEN
                dsimp only [List.isEmpty]
                go_wp2
                go_ret
                rw [HFIN.out]
                exact ⟨rfl, [], HA7.out.rm⟩
              | cons c4 r7 =>
                have HA7 := Lib.hid (HA6.out.mv (hm7b (by simp)))
                clear hm7 hm7b HEN
                dsimp only [List.isEmpty]
                have HAT := Lib.hid (rat_some X l (c4 :: r7) 0 0 0 c4 rfl hl _ HA7.out.rr)
                go_wp2_with fail
                refine HAT.out.mono ?_
                rintro e w8 ⟨rfl, hm8⟩
                have HA8 := Lib.hid (HA7.out.mv hm8)
                clear hm8 HAT
                obtain ⟨c0, c1, c2, c3⟩ := HA8.out.rr.cells
                have f1 := HA8.out.rr.frozen 1
                have hkb := suf_len HA8.out.rr.1
                obtain ⟨kq, hkq⟩ : ∃ kq, kq = l.length - (c4 :: r7).length := ⟨_, rfl⟩
                rw [← hkq] at c1
                have HKQ := Lib.hid hkq
                have HKB := Lib.hid hkb
                have hkqI : (kq : Int) ≤ 1000000 := by omega
                clear hkq hkb
                by_cases hqq : c4 = 34 ∨ c4 = 39
                · have HNX4 := Lib.hid (show ((letM c4 false (r7.length + 1) [] r7).bind fun v r4 => .ok (n, v) (r4.drop 1) : Rs At2).bind (fun a r4 => attrsR g (ats ++ [a]) r4) = attrsR (r.length + 1) [] r by
                    rw [← HNX3.out]
                    show _ = (ite _ _ _ : Rs At2).bind _
                    rw [if_pos (by simpa using hqq)])
                  have hb3 : ((c4.toNat : Int) != 34) = false ∨ (((c4.toNat : Int) != 34) = true ∧ ((c4.toNat : Int) != 39) = false) := by
                    rcases hqq with rfl | rfl
                    · exact .inl rfl
                    · exact .inr ⟨rfl, rfl⟩
                  clear hqq
                  go_upto_region 23 with fail
                  go_cut [98] from 92 to 129 (fun t wx => t = .bool false ∧ wx = w8)
                  case first =>
                    rcases hb3 with h | ⟨h, h2⟩
                    · go_wp2_with fail
                      go_meet
                      exact ⟨rfl, rfl⟩
                    · go_wp2_with fail
                      go_meet
                      exact ⟨rfl, rfl⟩
                  case rest =>
                    obtain ⟨rfl, rfl⟩ := hcut
                    clear hb3
                    have hsuf : r7 <:+ l := (List.suffix_cons c4 r7).trans HA8.out.rr.1
                    have hp := RM.put HA8.out.rr hsuf ((kq : Int) + 1) (by
                      have h1 := HKQ.out
                      have h2 := HKB.out
                      rw [h1]; simp at h2 ⊢; omega)
                    have HA9 := Lib.hid (HA8.out.mv hp)
                    clear hsuf hp
                    go_upto_region 27 with fail
                    generalize wc.setCell ⟨X, 1, none⟩ (.int .i64 ((kq : Int) + 1)) = w9 at HA9 ⊢
                    clear c0 c1 c2 c3 f1
                    have HLT9 := Lib.hid (rletters_at X l r7 c4 hl w9 HA9.out.rr)
                    have hclose := let_close (stop := c4) (r7.length + 1) [] r7 (by omega)
                    cases hM : letM c4 true (r7.length + 1) [] r7 with
                    | bad e8 r8 =>
                      have he8 := ne_let c4 true _ _ _ _ _ hM
                      have HFIN := Lib.hid (show attrsR (r.length + 1) [] r = .bad e8 r8 by rw [← HNX4.out, hclose, hM]; rfl)
                      rw [hM] at HLT9
                      have HCB := Lib.hid (show (e8 == 0) = false by simpa using he8)
                      clear hM he8 hclose
                      go_wp2_with fail
                      refine HLT9.out.mono ?_
                      rintro e w10 ⟨rfl, r9, hm10⟩
                      have HA10 := Lib.hid (HA9.out.mv hm10)
                      have HEN := Lib.hid (rend_bad X l r9 e8 _ HCB.out _ hm10.1)
                      clear hm10 HLT9
                      go_wp2_with fail
                      refine HEN.out.mono ?_
                      rintro e w11 ⟨rfl, hm11⟩
                      have HA11 := Lib.hid (HA10.out.mv hm11)
                      clear hm11 HEN
                      go_wp2
                      go_ret
                      rw [HFIN.out]
                      exact ⟨rfl, _, HA11.out.rm⟩
                    | ok v r8 =>
                      have HL8 := Lib.hid (ok_len hM (let_left _ _ _ _ _))
                      have HNX5 := Lib.hid (show ((closeL (.ok v r8)).bind fun v r4 => .ok (n, v) (r4.drop 1) : Rs At2).bind (fun a r4 => attrsR g (ats ++ [a]) r4) = attrsR (r.length + 1) [] r by rw [← HNX4.out, hclose, hM])
                      rw [hM] at HLT9
                      clear hM hclose
                      go_wp2_with fail
                      refine HLT9.out.mono ?_
                      rintro e w10 ⟨rfl, hm10⟩
                      have HA10 := Lib.hid (HA9.out.mv hm10)
                      have HEN := Lib.hid (rend_ok X l r8 _ hm10.1)
                      clear hm10 HLT9
                      go_wp2_with fail
                      refine HEN.out.mono ?_
                      rintro e w11 ⟨rfl, hm11, hm11b⟩
                      cases r8 with
                      | nil =>
                        have HA11 := Lib.hid (HA10.out.mv (hm11 rfl))
                        have HFIN := Lib.hid (show attrsR (r.length + 1) [] r = .bad 13 [] by rw [← HNX5.out]; rfl)
                        clear hm11 hm11b HEN
                        dsimp only [List.isEmpty]
                        go_wp2
                        go_ret
                        rw [HFIN.out]
                        exact ⟨rfl, [], HA11.out.rm⟩
                      | cons c9 r9 =>
                        have HA11 := Lib.hid (HA10.out.mv (hm11b (by simp)))
                        have HNX6 := Lib.hid (show attrsR g (ats ++ [(n, v)]) r9 = attrsR (r.length + 1) [] r by rw [← HNX5.out]; rfl)
                        clear hm11 hm11b HEN
                        dsimp only [List.isEmpty]
                        obtain ⟨c0, c1, c2, c3⟩ := HA11.out.rr.cells
                        have f1 := HA11.out.rr.frozen 1
                        have hkb := suf_len HA11.out.rr.1
                        obtain ⟨ks, hks⟩ : ∃ ks, ks = l.length - (c9 :: r9).length := ⟨_, rfl⟩
                        rw [← hks] at c1
                        have hksI : (ks : Int) ≤ 1000000 := by omega
                        have hsuf : r9 <:+ l := (List.suffix_cons c9 r9).trans HA11.out.rr.1
                        have hp := RM.put HA11.out.rr hsuf ((ks : Int) + 1) (by rw [hks]; simp at hkb ⊢; omega)
                        have HA12 := Lib.hid (HA11.out.mv hp)
                        clear hsuf hp hks hkb
                        go_upto_region 31 with fail
                        generalize w11.setCell ⟨X, 1, none⟩ (.int .i64 ((ks : Int) + 1)) = w12 at HA12 ⊢
                        clear c0 c1 c2 c3 f1
                        have HLEN2 := Lib.hid (show r9.length < g ∧ (ats ++ [(n, v)]).length + r9.length ≤ r.length ∧ r9.length < r'.length by
                          have h1 := HLEN.out
                          have h2 := HG.out
                          have h3 := HLT.out
                          have h4 := HL5.out
                          have h5 := HB5.out
                          have h6 := HL6.out
                          have h7 := HL7.out
                          have h8 := HL8.out
                          simp only [List.length_append, List.length_cons, List.length_nil] at h1 h2 h3 h4 h5 h6 h7 h8 ⊢
                          omega)
                        have hown := HA12.out.own
                        have h100 : ats.length ≤ 10000000 := by
                          have h1 := HLEN.out
                          have h2 := HLL.out
                          omega
                        have hbase : w.heap.size ≤ w12.heap.size := HA12.out.fr.size
                        go_wp2_with (first
                          | (refine appA2 (n, v) rfl _ _ rfl w.heap.size ats.length _ _ rfl hown rfl h100 hbase ?_; intro v' w13 ho13 hb13))
                        have HA13 := Lib.hid (HA12.out.push (a := (n, v)) ho13 hb13)
                        clear hown h100 hbase ho13 hb13
                        go_wp2
                        go_roundw
                        case rel => exact ⟨ats ++ [(n, v)], r9, g, HLEN2.out.1, HNX6.out, HLEN2.out.2.1, HA13.out⟩
                        case measure =>
                          rw [HOFF.out, HA13.out.rr.off]
                          have h1 := HLEN2.out.2.2
                          have h2 := HLL'.out
                          have h3 := suf_len HA13.out.rr.1
                          omega
                · have h34b : ((c4.toNat : Int) == 34) = false := u8_ne2 (d := 34) (fun h => hqq (.inl h))
                  have h34 : ((c4.toNat : Int) != 34) = true := by rw [bne, h34b]; rfl
                  have h39b : ((c4.toNat : Int) == 39) = false := u8_ne2 (d := 39) (fun h => hqq (.inr h))
                  have h39 : ((c4.toNat : Int) != 39) = true := by rw [bne, h39b]; rfl
                  have HFIN := Lib.hid (show attrsR (r.length + 1) [] r = .bad 10 (c4 :: r7) by
                    rw [← HNX3.out]
                    show (ite _ _ _ : Rs At2).bind _ = _
                    rw [if_neg (by simpa using hqq)]
                    rfl)
                  have HF := Lib.hid (rfail_yes X l (c4 :: r7) 0 10 (kq : Int) w8 HA8.out.rr)
                  clear hqq
                  go_wp2_with fail
                  refine HF.out.mono ?_
                  rintro e w9 ⟨rfl, hm9⟩
                  have HA9 := Lib.hid (HA8.out.mv hm9)
                  clear hm9
                  go_wp2
                  go_ret
                  rw [HFIN.out]
                  exact ⟨rfl, _, by rw [← HKQ.out]; exact HA9.out.rm⟩
end
/-! Rf2g -/
section
open Go.RowKit

/-- a token's cells -/
abbrev tkC (k : Int) (n : List UInt8) (va : Value) (t : List UInt8) (p0 p1 p2 : Int) : Array Value := #[.int .i64 k, .string (str n), va, .string (str t), .int .i64 p0, .int .i64 p1, .int .i64 p2]
/-- on the way through a token: the reader in X, the result in R, the token in T -/
structure N2 (w : World) (X R T : Nat) (l r : List UInt8) (c o : Int) (k : Int) (n : List UInt8) (ats : List At2) (va : Value) (t : List UInt8) (p0 p1 p2 : Int) (wk : World) : Prop where
  rr : RR wk X l r c o
  fr : FrX w.heap.size X w wk
  rrow : wk.heap[R]? = some (.cells tok0 51 (0, 0))
  trow : wk.heap[T]? = some (.cells (tkC k n va t p0 p1 p2) 51 (0, 0))
  own : wk.ownsRow (T + 1) 68 2 va ats.length (rowAs ats)
  hT : X < w.heap.size ∧ w.heap.size ≤ R ∧ R < T
section
variable {w wk wk' : World} {X R T : Nat} {l r r' : List UInt8} {c o c' o' k p0 p1 p2 : Int} {n t : List UInt8} {ats : List At2} {va : Value}
theorem N2.lt (h : N2 w X R T l r c o k n ats va t p0 p1 p2 wk) : T < wk.heap.size := (Array.getElem?_eq_some_iff.1 h.trow).1
theorem N2.mv (h : N2 w X R T l r c o k n ats va t p0 p1 p2 wk) (hm : RM X l r' c' o' wk wk') : N2 w X R T l r' c' o' k n ats va t p0 p1 p2 wk' :=
  ⟨hm.1, h.fr.trans (FrX.ofGrown hm.2 h.fr.size), (hm.2.block R (by have := h.hT; have := h.lt; omega) (by have := h.hT; simp; omega)).trans h.rrow, (hm.2.block T h.lt (by have := h.hT; simp; omega)).trans h.trow, own_x h.own hm.2 (by have := h.hT; omega), h.hT⟩
theorem N2.below (h : N2 w X R T l r c o k n ats va t p0 p1 p2 wk) (hb : Below wk.heap.size wk wk') : N2 w X R T l r c o k n ats va t p0 p1 p2 wk' := h.mv (RM.below h.rr hb)
theorem N2.cells (h : N2 w X R T l r c o k n ats va t p0 p1 p2 wk) :
    (wk.cell? ⟨T, 0, none⟩ = some (.int .i64 k) ∧ wk.cell? ⟨T, 1, none⟩ = some (.string (str n)) ∧ wk.cell? ⟨T, 2, none⟩ = some va ∧ wk.cell? ⟨T, 3, none⟩ = some (.string (str t))) ∧
      (wk.cell? ⟨T, 4, none⟩ = some (.int .i64 p0) ∧ wk.cell? ⟨T, 5, none⟩ = some (.int .i64 p1) ∧ wk.cell? ⟨T, 6, none⟩ = some (.int .i64 p2)) := by
  refine ⟨⟨?_, ?_, ?_, ?_⟩, ?_, ?_, ?_⟩
  · rw [cell_of_row wk T 0 _ _ (0, 0) h.trow]; rfl
  · rw [cell_of_row wk T 1 _ _ (0, 0) h.trow]; rfl
  · rw [cell_of_row wk T 2 _ _ (0, 0) h.trow]; rfl
  · rw [cell_of_row wk T 3 _ _ (0, 0) h.trow]; rfl
  · rw [cell_of_row wk T 4 _ _ (0, 0) h.trow]; rfl
  · rw [cell_of_row wk T 5 _ _ (0, 0) h.trow]; rfl
  · rw [cell_of_row wk T 6 _ _ (0, 0) h.trow]; rfl
theorem N2.frozen (h : N2 w X R T l r c o k n ats va t p0 p1 p2 wk) (j : Nat) : wk.frozen? ⟨T, j, none⟩ = false := frozen_of_row wk T j _ _ h.trow
/-- a store into the token -/
theorem N2.set {k' p0' p1' p2' : Int} {n' t' : List UInt8} {ats' : List At2} {va' : Value} (h : N2 w X R T l r c o k n ats va t p0 p1 p2 wk) (j : Nat) (v : Value) (hrow : (tkC k n va t p0 p1 p2).setIfInBounds j v = tkC k' n' va' t' p0' p1' p2')
    (ho : wk.ownsRow (T + 1) 68 2 va' ats'.length (rowAs ats')) : N2 w X R T l r c o k' n' ats' va' t' p0' p1' p2' (wk.setCell ⟨T, j, none⟩ v) := by
  refine ⟨⟨h.rr.1, ?_⟩, FrX.set h.fr (by have := h.hT; omega), ?_, ?_, ownsRow_setCell_below ho (a := ⟨T, j, none⟩) (by simp) _, h.hT⟩
  · rw [heap_setCell_other wk ⟨T, j, none⟩ X _ (fun e => by have := h.hT; simp only at e; omega)]
    exact h.rr.2
  · rw [heap_setCell_other wk ⟨T, j, none⟩ R _ (fun e => by have := h.hT; simp only at e; omega)]
    exact h.rrow
  · have := heap_setCell_same wk T j _ _ v h.trow
    rw [hrow] at this
    exact this
theorem N2.kind (h : N2 w X R T l r c o k n ats va t p0 p1 p2 wk) (k' : Int) : N2 w X R T l r c o k' n ats va t p0 p1 p2 (wk.setCell ⟨T, 0, none⟩ (.int .i64 k')) := h.set 0 _ (by simp) h.own
theorem N2.name (h : N2 w X R T l r c o k n ats va t p0 p1 p2 wk) (n' : List UInt8) : N2 w X R T l r c o k n' ats va t p0 p1 p2 (wk.setCell ⟨T, 1, none⟩ (.string (str n'))) := h.set 1 _ (by simp) h.own
theorem N2.text (h : N2 w X R T l r c o k n ats va t p0 p1 p2 wk) (t' : List UInt8) : N2 w X R T l r c o k n ats va t' p0 p1 p2 (wk.setCell ⟨T, 3, none⟩ (.string (str t'))) := h.set 3 _ (by simp) h.own
theorem N2.line (h : N2 w X R T l r c o k n ats va t p0 p1 p2 wk) (p : Int) : N2 w X R T l r c o k n ats va t p0 p p2 (wk.setCell ⟨T, 5, none⟩ (.int .i64 p)) := h.set 5 _ (by simp) h.own
theorem N2.col (h : N2 w X R T l r c o k n ats va t p0 p1 p2 wk) (p : Int) : N2 w X R T l r c o k n ats va t p0 p1 p (wk.setCell ⟨T, 6, none⟩ (.int .i64 p)) := h.set 6 _ (by simp) h.own
theorem N2.attrs {ats' : List At2} {va' : Value} (h : N2 w X R T l r c o k n ats va t p0 p1 p2 wk) (ho : wk.ownsRow (T + 1) 68 2 va' ats'.length (rowAs ats')) : N2 w X R T l r c o k n ats' va' t p0 p1 p2 (wk.setCell ⟨T, 2, none⟩ va') := h.set 2 _ (by simp) ho
end
/-- what Next leaves -/
def NxQ (X : Nat) (l r : List UInt8) (w : World) (e : Ending) (w' : World) : Prop :=
  match pieceM (l.length - r.length) r with
  | .ok x r2 => RM X l r2 0 0 w w' ∧ ∃ va, e = .returned (.agg (tmL (x.mem l) va).toArray) ∧ w'.ownsRow w.heap.size 68 2 va x.ats.length (rowAs x.ats)
  | .bad c r2 => (∃ k n a m q t p0 p1 p2, e = .returned (.agg (tkC k n (.slice a m q) t p0 p1 p2))) ∧ ∃ r', RM X l r' c ((l.length - r2.length : Nat) : Int) w w'
theorem nx_fin {X R T : Nat} {l r r2 : List UInt8} {x : Tk} {va : Value} {w wk : World} {cs : Array Value} {n0 : Nat} (hn0 : n0 = l.length - r.length) (hM : pieceM n0 r = .ok x r2)
    (h : N2 w X R T l r2 0 0 x.k x.n x.ats va x.t (n0 : Int) (lineS (preO l r)) (colS (preO l r)) wk) :
    NxQ X l r w (.returned (.agg (tkC x.k x.n va x.t (n0 : Int) (lineS (preO l r)) (colS (preO l r))))) (wk.setRow R cs) := by
  subst hn0
  unfold NxQ
  rw [hM]
  have ho := piece_o hM
  have hT := h.hT
  refine ⟨⟨⟨h.rr.1, (setRow_other wk R X _ (by omega)).trans h.rr.2⟩, (h.fr.setRow hT.2.1).grown⟩, va, ?_, ?_⟩
  · simp only [tmL, Tk.mem, ho, preO]
  · exact own_mono2 (own_row2 h.own (by omega)) (by omega)
theorem nx_bad {X R T : Nat} {l r r2 r' : List UInt8} {c o k p0 p1 p2 : Int} {n t : List UInt8} {ats : List At2} {va : Value} {w wk : World} {cs : Array Value} {n0 : Nat} (hn0 : n0 = l.length - r.length) (hM : pieceM n0 r = .bad c r2)
    (h : N2 w X R T l r' c o k n ats va t p0 p1 p2 wk) (ho : o = ((l.length - r2.length : Nat) : Int)) :
    NxQ X l r w (.returned (.agg (tkC k n va t p0 p1 p2))) (wk.setRow R cs) := by
  subst hn0
  unfold NxQ
  rw [hM]
  have hT := h.hT
  obtain ⟨a, q, hv⟩ := RdSl.shape (RdAs.of_own h.own)
  subst hv
  refine ⟨⟨k, n, a, _, q, t, p0, p1, p2, rfl⟩, r', ⟨h.rr.1, (setRow_other wk R X _ (by omega)).trans (by rw [← ho]; exact h.rr.2)⟩, (h.fr.setRow hT.2.1).grown⟩
/-! what each way comes to -/
theorem piece_text {o : Nat} {c : UInt8} {r1 : List UInt8} (h : c ≠ 60) : pieceM o (c :: r1) = (letM 60 true ((c :: r1).length + 1) [] (c :: r1)).bind fun t r2 => .ok ⟨4, [], [], t, o⟩ r2 := by rw [pieceM, if_pos h]
theorem pre_60 {f : List UInt8} {c : UInt8} {r1 : List UInt8} (h : (60 :: f).isPrefixOf (c :: r1) = true) : c = 60 := by
  simp [List.isPrefixOf] at h
  exact h.1.symm
theorem piece_note {o : Nat} {c : UInt8} {r1 : List UInt8} (h : noteF.isPrefixOf (c :: r1) = true) : pieceM o (c :: r1) = (betM noteB [] ((c :: r1).drop 4)).bind fun t r2 => .ok ⟨5, [], [], t, o⟩ r2 := by
  rw [pieceM, if_neg (by simpa using pre_60 h), if_pos h]
theorem piece_cd {o : Nat} {c : UInt8} {r1 : List UInt8} (h1 : noteF.isPrefixOf (c :: r1) = false) (h : cdF.isPrefixOf (c :: r1) = true) : pieceM o (c :: r1) = (betM cdB [] ((c :: r1).drop 9)).bind fun t r2 => .ok ⟨4, [], [], t, o⟩ r2 := by
  rw [pieceM, if_neg (by simpa using pre_60 h), if_neg (by rw [h1]; decide), if_pos h]
theorem piece_head {o : Nat} {c : UInt8} {r1 : List UInt8} (h1 : noteF.isPrefixOf (c :: r1) = false) (h2 : cdF.isPrefixOf (c :: r1) = false) (h : headM (o == 0) (c :: r1) = true) : pieceM o (c :: r1) = (betM headB [] ((c :: r1).drop 5)).bind fun t r2 => .ok ⟨6, [], [], t, o⟩ r2 := by
  have h3 := h
  simp only [headM, Bool.and_eq_true] at h3
  rw [pieceM, if_neg (by simpa using pre_60 h3.1.2), if_neg (by rw [h1]; decide), if_neg (by rw [h2]; decide), if_pos h]
theorem piece_tag {o : Nat} {r1 : List UInt8} (h1 : noteF.isPrefixOf (60 :: r1) = false) (h2 : cdF.isPrefixOf (60 :: r1) = false) (h : headM (o == 0) (60 :: r1) = false) :
    pieceM o (60 :: r1) = if r1.head? = some 47 then (closeM (r1.drop 1)).bind fun n r2 => .ok ⟨3, n, [], [], o⟩ r2 else (openM r1).bind fun x r2 => .ok ⟨x.1, x.2.1, x.2.2, [], o⟩ r2 := by
  rw [pieceM, if_neg (by decide), if_neg (by rw [h1]; decide), if_neg (by rw [h2]; decide), if_neg (by rw [h]; decide)]
  rfl
/-- text, or something that went wrong -/
theorem text_two {X : Nat} {l : List UInt8} {M : Rs (List UInt8)} {w w' : World} {e : Ending} (hne : ∀ e r', M = .bad e r' → e ≠ 0) (h : RfP X l M (fun n => .string (str n)) (.string (str [])) w e w') :
    ∃ n c0 o0 r1, e = .returned (.string (str n)) ∧ RM X l r1 c0 o0 w w' ∧ ((c0 = 0 ∧ o0 = 0 ∧ M = .ok n r1) ∨ (c0 ≠ 0 ∧ ∃ r5, M = .bad c0 r5 ∧ o0 = ((l.length - r5.length : Nat) : Int))) := by
  cases hM : M with
  | ok n r1 => rw [hM] at h; exact ⟨n, 0, 0, r1, h.1, h.2, .inl ⟨rfl, rfl, rfl⟩⟩
  | bad c r5 =>
    rw [hM] at h
    obtain ⟨h1, r', h2⟩ := h
    exact ⟨[], c, _, r', h1, h2, .inr ⟨hne _ _ hM, r5, rfl, rfl⟩⟩
/-- a token of text alone -/
theorem nx_text {X R T : Nat} {l r r1 : List UInt8} {M : Rs (List UInt8)} {k c0 o0 : Int} {t : List UInt8} {va : Value} {w wk : World} {cs : Array Value} {n0 : Nat} (hn0 : n0 = l.length - r.length)
    (hP : pieceM n0 r = M.bind fun t r2 => .ok ⟨k, [], [], t, n0⟩ r2)
    (hM : (c0 = 0 ∧ o0 = 0 ∧ M = .ok t r1) ∨ (c0 ≠ 0 ∧ ∃ r5, M = .bad c0 r5 ∧ o0 = ((l.length - r5.length : Nat) : Int)))
    (h : N2 w X R T l r1 c0 o0 k [] [] va t (n0 : Int) (lineS (preO l r)) (colS (preO l r)) wk) :
    NxQ X l r w (.returned (.agg (tkC k [] va t (n0 : Int) (lineS (preO l r)) (colS (preO l r))))) (wk.setRow R cs) := by
  rcases hM with ⟨rfl, rfl, hM⟩ | ⟨_, r5, hM, ho⟩
  · exact nx_fin (x := ⟨k, [], [], t, n0⟩) hn0 (by rw [hP, hM]; rfl) h
  · exact nx_bad hn0 (by rw [hP, hM]; rfl) h ho
theorem ne_attrsR : ∀ (f : Nat) (ats : List At2) (r : List UInt8), Ne0 (attrsR f ats r)
  | 0, ats, r => ne_ok
  | f + 1, ats, r => by
    rw [attrsR]
    split
    · exact ne_ok
    · split
      · exact ne_ok
      · split
        · exact ne_ok
        · exact ne_bind (ne_attr _ _) fun a r2 => ne_attrsR f _ _
theorem endM_no (n : List UInt8) (ats : List At2) {r : List UInt8} (h : r.head? ≠ some 47) : endM n ats r = (mustM 62 r).bind fun _ r4 => .ok (1, n, ats) r4 := by
  cases r with
  | nil => rfl
  | cons c r => rw [endM, if_neg (by simpa using h)]
theorem endM_yes (n : List UInt8) (ats : List At2) (r : List UInt8) : endM n ats (47 :: r) = (mustM 62 r).bind fun _ r4 => .ok (2, n, ats) r4 := by rw [endM, if_pos rfl]
theorem nx_results (tmps : Array Value) (w : World) (R : Nat) (cs : Array Value) (hs : cs.size = 7) (h2 : tmps.getD 2 undef = .pointer (some ⟨R, 0, none⟩))
    (hR : w.heap[R]? = some (.cells cs 51 (0, 0))) :
    (results Tryz.f47 tmps).run Tryz.prog w = .ok (.agg cs) w := by
  have h2' : tmps[2]?.getD undef = .pointer (some ⟨R, 0, none⟩) := by simpa using h2
  have l1 := run_loadVar_row w R 51 51 cs (0, 0) _ hR Tryz.underlying51 rfl (by rw [hs]; kernel_rfl)
  simp [results, Tryz.results47, h2', asAddr, l1]
end
/-! Rf2h -/
section
open Go.RowKit

set_option maxRecDepth 100000 in
set_option maxHeartbeats 16000000 in
theorem next_at (X : Nat) (l : List UInt8) (c0 : UInt8) (r0 : List UInt8) (hl : l.length ≤ 1000000) (w : World) (h : RR w X l (c0 :: r0) 0 0) :
    Calls Tryz.prog 47 #[.pointer (some ⟨X, 0, none⟩)] w (NxQ X l (c0 :: r0) w) := by
  obtain ⟨r, hr⟩ : ∃ r, r = c0 :: r0 := ⟨_, rfl⟩
  rw [← hr] at h ⊢
  have HR0 := Lib.hid hr
  clear hr
  have HXW := Lib.hid h.lt
  obtain ⟨wR, hwR⟩ : ∃ wR, wR = w.alloc (.cells tok0 51) := ⟨_, rfl⟩
  have hbR : Below w.heap.size w wR := by rw [hwR]; exact (Below.refl _ _).alloc (Nat.le_refl _) _
  have hR1 : wR.heap[w.heap.size]? = some (.cells tok0 51 (0, 0)) := by rw [hwR]; exact heap_alloc_new w _
  have hzR : wR.heap.size = w.heap.size + 1 := by rw [hwR]; simp
  have hrR := h.below hbR
  obtain ⟨d0, d1, d2, d3⟩ := hrR.cells
  obtain ⟨n0, hn0⟩ : ∃ n0, n0 = l.length - r.length := ⟨_, rfl⟩
  rw [← hn0] at d1
  obtain ⟨wT, hwT⟩ : ∃ wT, wT = wR.alloc (.cells #[.int .i64 0, .string ⟨#[]⟩, .slice none 0 0, .string ⟨#[]⟩, .int .i64 (n0 : Int), .int .i64 0, .int .i64 0] 51) := ⟨_, rfl⟩
  have hbT : Below wR.heap.size wR wT := by rw [hwT]; exact (Below.refl _ _).alloc (Nat.le_refl _) _
  have hT1 : wT.heap[w.heap.size + 1]? = some (.cells (tkC 0 [] (.slice none 0 0) [] (n0 : Int) 0 0) 51 (0, 0)) := by
    have := heap_alloc_new wR (.cells #[.int .i64 0, .string ⟨#[]⟩, .slice none 0 0, .string ⟨#[]⟩, .int .i64 (n0 : Int), .int .i64 0, .int .i64 0] 51)
    rw [← hwT, hzR] at this; exact this
  have HN := Lib.hid (show N2 w X w.heap.size (w.heap.size + 1) l r 0 0 0 [] [] (.slice none 0 0) [] (n0 : Int) 0 0 wT from
    ⟨hrR.below hbT, FrX.ofBelow (hbR.trans (hbT.mono hbR.size)), (hbT.block _ (by omega)).trans hR1, hT1, World.ownsRow_nil _ _ _ _, h.lt, Nat.le_refl _, by omega⟩)
  have HLL := Lib.hid (suf_len h.1)
  have HSZ := Lib.hid (size_str l)
  have HSUF := Lib.hid h.1
  have HN0 := Lib.hid hn0
  have HWR := Lib.hid hwR
  have HWT := Lib.hid hwT
  have HZR := Lib.hid hzR
  clear h hwR hbR hR1 hrR hwT hbT hT1 hn0 hzR
  go_enter Tryz.func47, Tryz.ntmps47
  go_upto_region 1 with fail
  rw [← HWR.out]
  go_upto_region 2 with fail
  rw [← HWT.out]
  simp only [HZR.out]
  clear d0 d1 d2 d3
  obtain ⟨Rb, hRb⟩ : ∃ R, R = w.heap.size := ⟨_, rfl⟩
  obtain ⟨Tb, hTb⟩ : ∃ T, T = w.heap.size + 1 := ⟨_, rfl⟩
  rw [← hTb, ← hRb] at HN
  simp only [← hTb]
  simp only [← hRb]
  have HRB := Lib.hid hRb
  have HTB := Lib.hid hTb
  clear hRb hTb
  have hlt : l.length - r.length ≤ l.length := Nat.sub_le _ _
  have HAT := Lib.hid (fun w => refAt_any (str l) (by rw [size_str]; omega) n0 (by rw [size_str, HN0.out]; omega) w)
  rw [toList_str] at HAT
  have hlt2 : l.take n0 = preO l r := by rw [HN0.out]; rfl
  rw [hlt2] at HAT
  have C0 := Lib.hid (fun w1 (hb : Below wT.heap.size wT w1) => (HN.out.rr.below hb).cells.1)
  have C1 := Lib.hid (fun w1 (hb : Below wT.heap.size wT w1) => (HN.out.rr.below hb).cells.2.1)
  rw [← HN0.out] at C1
  clear hlt hlt2
  refine wp_region_held_drew (S := (fun w1 => Below wT.heap.size wT w1)) (by kernel_rfl) (by (try dsimp only); exact (Below.refl _ _).drew) (fun hHeld => ?_)
  generalize wT.drew = wd at hHeld ⊢
  refine wpAnyH_take (i := 0) (v := ?_) (by (simp only [List.getElem?_toArray, List.getElem?_cons_succ, List.getElem?_cons_zero]; rfl)) (by kernel_rfl) (by kernel_rfl) (by kernel_rfl) (by intro _ _ _ h; exact h) (Or.inl ⟨by rfl, ?_⟩) (by assumption) ?_
  rotate_left
  · (intro w hSw; (try dsimp only at hSw); go_simp; try (with_reducible rfl))
  simp only [Act.put, List.setIfInBounds_toArray, List.set_cons_zero, List.set_cons_succ]
  refine wpAnyH_take (i := 1) (v := ?_) (by (simp only [List.getElem?_toArray, List.getElem?_cons_succ, List.getElem?_cons_zero]; rfl)) (by kernel_rfl) (by kernel_rfl) (by kernel_rfl) (by intro _ _ _ h; exact h) (Or.inl ⟨by rfl, ?_⟩) (by assumption) ?_
  rotate_left
  · (intro w hSw; (try dsimp only at hSw); go_simp; try (with_reducible rfl))
  simp only [Act.put, List.setIfInBounds_toArray, List.set_cons_zero, List.set_cons_succ]
  refine wpAnyH_take (i := 2) (v := ?_) (by (simp only [List.getElem?_toArray, List.getElem?_cons_succ, List.getElem?_cons_zero]; rfl)) (by kernel_rfl) (by kernel_rfl) (by kernel_rfl) (by intro _ _ _ h; exact h) (Or.inl ⟨by rfl, ?_⟩) (by assumption) ?_
  rotate_left
  · (intro w hSw; (try dsimp only at hSw); go_simp; try (with_reducible rfl))
  simp only [Act.put, List.setIfInBounds_toArray, List.set_cons_zero, List.set_cons_succ]
  refine wpAnyH_take (i := 3) (v := ?_) (by (simp only [List.getElem?_toArray, List.getElem?_cons_succ, List.getElem?_cons_zero]; rfl)) (by kernel_rfl) (by kernel_rfl) (by kernel_rfl) (by intro _ _ _ h; exact h) (Or.inl ⟨by rfl, ?_⟩) (by assumption) ?_
  rotate_left
  · (intro w hSw; have q1 := C0.out w hSw; go_simp; try (with_reducible rfl))
  simp only [Act.put, List.setIfInBounds_toArray, List.set_cons_zero, List.set_cons_succ]
  refine wpAnyH_take (i := 4) (v := ?_) (by (simp only [List.getElem?_toArray, List.getElem?_cons_succ, List.getElem?_cons_zero]; rfl)) (by kernel_rfl) (by kernel_rfl) (by kernel_rfl) (by intro _ _ _ h; exact h) (Or.inl ⟨by rfl, ?_⟩) (by assumption) ?_
  rotate_left
  · (intro w hSw; (try dsimp only at hSw); go_simp; try (with_reducible rfl))
  simp only [Act.put, List.setIfInBounds_toArray, List.set_cons_zero, List.set_cons_succ]
  refine wpAnyH_take (i := 5) (v := ?_) (by (simp only [List.getElem?_toArray, List.getElem?_cons_succ, List.getElem?_cons_zero]; rfl)) (by kernel_rfl) (by kernel_rfl) (by kernel_rfl) (by intro _ _ _ h; exact h) (Or.inl ⟨by rfl, ?_⟩) (by assumption) ?_
  rotate_left
  · (intro w hSw; (try dsimp only at hSw); go_simp; try (with_reducible rfl))
  simp only [Act.put, List.setIfInBounds_toArray, List.set_cons_zero, List.set_cons_succ]
  refine wpAnyH_take (i := 6) (v := ?_) (by (simp only [List.getElem?_toArray, List.getElem?_cons_succ, List.getElem?_cons_zero]; rfl)) (by kernel_rfl) (by kernel_rfl) (by kernel_rfl) (by intro _ _ _ h; exact h) (Or.inl ⟨by rfl, ?_⟩) (by assumption) ?_
  rotate_left
  · (intro w hSw; (try dsimp only at hSw); go_simp; try (with_reducible rfl))
  simp only [Act.put, List.setIfInBounds_toArray, List.set_cons_zero, List.set_cons_succ]
  refine wpAnyH_take (i := 7) (v := ?_) (by (simp only [List.getElem?_toArray, List.getElem?_cons_succ, List.getElem?_cons_zero]; rfl)) (by kernel_rfl) (by kernel_rfl) (by kernel_rfl) (by intro _ _ _ h; exact h) (Or.inl ⟨by rfl, ?_⟩) (by assumption) ?_
  rotate_left
  · (intro w hSw; have q1 := C1.out w hSw; go_simp; try (with_reducible rfl))
  simp only [Act.put, List.setIfInBounds_toArray, List.set_cons_zero, List.set_cons_succ]
  refine wpAnyH_ready (rs := [8]) (by kernel_rfl) (by simp) ?_
  refine AllReadyH.cons (by (simp only [List.getElem?_toArray, List.getElem?_cons_succ, List.getElem?_cons_zero]; rfl)) (fun K hK => ?_) AllReadyH.nil
  go_simp
  go_at_call 11; refine (HAT.out _).mono ?_; rintro e w6 ⟨rfl, hw6⟩
  refine hK.out _ _ (by (try dsimp only); rw [hw6]; exact hHeld) (fun hHeld => ?_)
  clear hK K
  try simp only [Act.put, List.setIfInBounds_toArray, List.set_cons_zero, List.set_cons_succ]
  clear hw6
  refine wpAnyH_take (i := 9) (v := ?_) (by (simp only [List.getElem?_toArray, List.getElem?_cons_succ, List.getElem?_cons_zero]; rfl)) (by kernel_rfl) (by kernel_rfl) (by kernel_rfl) (by intro _ _ _ h; exact h) (Or.inl ⟨by rfl, ?_⟩) (by assumption) ?_
  rotate_left
  · (intro w hSw; (try dsimp only at hSw); go_simp; try (with_reducible rfl))
  simp only [Act.put, List.setIfInBounds_toArray, List.set_cons_zero, List.set_cons_succ]
  refine wpAnyH_take (i := 10) (v := ?_) (by (simp only [List.getElem?_toArray, List.getElem?_cons_succ, List.getElem?_cons_zero]; rfl)) (by kernel_rfl) (by kernel_rfl) (by kernel_rfl) (by intro _ _ _ h; exact h) (Or.inl ⟨by rfl, ?_⟩) (by assumption) ?_
  rotate_left
  · (intro w hSw; (try dsimp only at hSw); go_simp; try (with_reducible rfl))
  simp only [Act.put, List.setIfInBounds_toArray, List.set_cons_zero, List.set_cons_succ]
  refine wpAnyH_take (i := 11) (v := ?_) (by (simp only [List.getElem?_toArray, List.getElem?_cons_succ, List.getElem?_cons_zero]; rfl)) (by kernel_rfl) (by kernel_rfl) (by kernel_rfl) (by intro _ _ _ h; exact h) (Or.inl ⟨by rfl, ?_⟩) (by assumption) ?_
  rotate_left
  · (intro w hSw; (try dsimp only at hSw); go_simp; try (with_reducible rfl))
  simp only [Act.put, List.setIfInBounds_toArray, List.set_cons_zero, List.set_cons_succ]
  refine wpAnyH_take (i := 12) (v := ?_) (by (simp only [List.getElem?_toArray, List.getElem?_cons_succ, List.getElem?_cons_zero]; rfl)) (by kernel_rfl) (by kernel_rfl) (by kernel_rfl) (by intro _ _ _ h; exact h) (Or.inl ⟨by rfl, ?_⟩) (by assumption) ?_
  rotate_left
  · (intro w hSw; (try dsimp only at hSw); go_simp; try (with_reducible rfl))
  simp only [Act.put, List.setIfInBounds_toArray, List.set_cons_zero, List.set_cons_succ]
  refine wpAnyH_take (i := 13) (v := ?_) (by (simp only [List.getElem?_toArray, List.getElem?_cons_succ, List.getElem?_cons_zero]; rfl)) (by kernel_rfl) (by kernel_rfl) (by kernel_rfl) (by intro _ _ _ h; exact h) (Or.inl ⟨by rfl, ?_⟩) (by assumption) ?_
  rotate_left
  · (intro w hSw; (try dsimp only at hSw); go_simp; try (with_reducible rfl))
  simp only [Act.put, List.setIfInBounds_toArray, List.set_cons_zero, List.set_cons_succ]
  refine wpAnyH_done (by kernel_rfl) ?_ _
  have HN2 := Lib.hid (HN.out.below hHeld)
  clear hHeld
  have z5 := HN2.out.cells.2.2.1
  have f5 := HN2.out.frozen 5
  have HN3 := Lib.hid (HN2.out.line (lineS (preO l r)))
  go_upto_region 4 with fail
  clear z5 f5
  generalize w6.setCell ⟨Tb, 5, none⟩ (.int .i64 (lineS (preO l r))) = w7 at HN3 ⊢
  have z6 := HN3.out.cells.2.2.2
  have f6 := HN3.out.frozen 6
  have HN4 := Lib.hid (HN3.out.col (colS (preO l r)))
  go_upto_region 5 with fail
  clear z6 f6
  generalize w7.setCell ⟨Tb, 6, none⟩ (.int .i64 (colS (preO l r))) = w8 at HN4 ⊢
  have HB1 := Lib.hid (rbegins_at X l r noteF 0 0 (by decide) hl w8 HN4.out.rr)
  go_wp2_with fail
  refine HB1.out.mono ?_
  rintro e w9 ⟨rfl, hm9⟩
  have HN5 := Lib.hid (HN4.out.mv hm9)
  clear hm9 HB1
  generalize hb1 : noteF.isPrefixOf r = b1
  have HE1 := Lib.hid hb1
  clear hb1
  cases b1 with
  | true =>
    have z0 := HN5.out.cells.1.1
    have f0 := HN5.out.frozen 0
    have HK1 := Lib.hid (HN5.out.kind 5)
    go_upto_region 7 with fail
    clear z0 f0
    generalize w9.setCell ⟨Tb, 0, none⟩ (.int .i64 5) = w20 at HK1 ⊢
    have HPL := Lib.hid ((rplain_at X l r noteB 4 (by have := (List.isPrefixOf_iff_prefix.1 HE1.out).length_le; exact this) (by decide) rfl hl w20 HK1.out.rr).mono fun e w' h => text_two (ne_bet _ _ _) h)
    go_wp2_with fail
    refine HPL.out.mono ?_
    rintro e w21 ⟨t, e0, o0, r1, rfl, hm21, hM⟩
    have HK2 := Lib.hid (HK1.out.mv hm21)
    have HM := Lib.hid hM
    have z3 := HK2.out.cells.1.2.2.2
    have f3 := HK2.out.frozen 3
    have HK3 := Lib.hid (HK2.out.text t)
    clear hm21 hM HPL
    go_upto_region 8 with fail
    clear z3 f3
    generalize w21.setCell ⟨Tb, 3, none⟩ (.string (str t)) = w22 at HK3 ⊢
    obtain ⟨⟨z0, z1, z2, z3⟩, z4, z5, z6⟩ := HK3.out.cells
    have HROW := Lib.hid HK3.out.rrow
    go_wp2_with (refine wpList_store_row rfl 51 _ _ rfl Rb (tkC 5 [] (.slice none 0 0) t (n0 : Int) (lineS (preO l r)) (colS (preO l r))) rfl rfl 51 _ HROW.out (by kernel_rfl) rfl (by simp [Value.oneCell']) ?_)
    refine bodyPost_ret (nx_results _ _ Rb (tkC 5 [] (.slice none 0 0) t (n0 : Int) (lineS (preO l r)) (colS (preO l r))) rfl rfl (setRow_heap _ Rb _ _ _ _ HROW.out)) rfl ?_
    exact nx_text HN0.out (by rw [HR0.out]; rw [HR0.out] at HE1; exact piece_note HE1.out) HM.out HK3.out
  | false =>
    have HB2 := Lib.hid (rbegins_at X l r cdF 0 0 (by decide) hl w9 HN5.out.rr)
    go_wp2_with fail
    refine HB2.out.mono ?_
    rintro e w10 ⟨rfl, hm10⟩
    have HN6 := Lib.hid (HN5.out.mv hm10)
    clear hm10 HB2
    generalize hb2 : cdF.isPrefixOf r = b2
    have HE2 := Lib.hid hb2
    clear hb2
    cases b2 with
    | true =>
      have z0 := HN6.out.cells.1.1
      have f0 := HN6.out.frozen 0
      have HK1 := Lib.hid (HN6.out.kind 4)
      go_upto_region 11 with fail
      clear z0 f0
      generalize w10.setCell ⟨Tb, 0, none⟩ (.int .i64 4) = w20 at HK1 ⊢
      have HPL := Lib.hid ((rplain_at X l r cdB 9 (by have := (List.isPrefixOf_iff_prefix.1 HE2.out).length_le; exact this) (by decide) rfl hl w20 HK1.out.rr).mono fun e w' h => text_two (ne_bet _ _ _) h)
      go_wp2_with fail
      refine HPL.out.mono ?_
      rintro e w21 ⟨t, e0, o0, r1, rfl, hm21, hM⟩
      have HK2 := Lib.hid (HK1.out.mv hm21)
      have HM := Lib.hid hM
      have z3 := HK2.out.cells.1.2.2.2
      have f3 := HK2.out.frozen 3
      have HK3 := Lib.hid (HK2.out.text t)
      clear hm21 hM HPL
      go_upto_region 12 with fail
      clear z3 f3
      generalize w21.setCell ⟨Tb, 3, none⟩ (.string (str t)) = w22 at HK3 ⊢
      obtain ⟨⟨z0, z1, z2, z3⟩, z4, z5, z6⟩ := HK3.out.cells
      have HROW := Lib.hid HK3.out.rrow
      go_wp2_with (refine wpList_store_row rfl 51 _ _ rfl Rb (tkC 4 [] (.slice none 0 0) t (n0 : Int) (lineS (preO l r)) (colS (preO l r))) rfl rfl 51 _ HROW.out (by kernel_rfl) rfl (by simp [Value.oneCell']) ?_)
      refine bodyPost_ret (nx_results _ _ Rb (tkC 4 [] (.slice none 0 0) t (n0 : Int) (lineS (preO l r)) (colS (preO l r))) rfl rfl (setRow_heap _ Rb _ _ _ _ HROW.out)) rfl ?_
      exact nx_text HN0.out (by rw [HR0.out]; rw [HR0.out] at HE1 HE2; exact piece_cd HE1.out HE2.out) HM.out HK3.out
    | false =>
      obtain ⟨c0', c1, c2, c3⟩ := HN6.out.rr.cells
      rw [← HN0.out] at c1
      go_upto_region 13 with fail
      go_cut [62] from 6 to 130 (fun t wx => t = .bool (headM (n0 == 0) r) ∧ N2 w X Rb Tb l r 0 0 0 [] [] (.slice none 0 0) [] (n0 : Int) (lineS (preO l r)) (colS (preO l r)) wx)
      case first =>
        by_cases hz : n0 = 0
        · have hzb : ((n0 : Int) == 0) = true := by rw [hz]; rfl
          have HZ := Lib.hid (show (n0 == 0) = true by rw [hz]; rfl)
          have HB3 := Lib.hid (rbegins_at X l r headF 0 0 (by decide) hl w10 HN6.out.rr)
          clear hz
          go_wp2_with fail
          refine HB3.out.mono ?_
          rintro e w11 ⟨rfl, hm11⟩
          have HN7 := Lib.hid (HN6.out.mv hm11)
          clear hm11 HB3
          generalize hb3 : headF.isPrefixOf r = b3
          have HE3 := Lib.hid hb3
          clear hb3
          cases b3 with
          | false =>
            go_wp2_with fail
            go_meet
            exact ⟨by rw [headM, HZ.out, HE3.out]; rfl, HN7.out⟩
          | true =>
            cases h5 : r[5]? with
            | none =>
              have HG := Lib.hid (show headM (n0 == 0) r = false by rw [headM, HZ.out, HE3.out, h5]; rfl)
              have h5l : r.length ≤ 5 := List.getElem?_eq_none_iff.1 h5
              have HA5 := Lib.hid (rat_none X l r 0 0 5 h5l (by decide) hl w11 HN7.out.rr)
              clear h5
              go_wp2_with fail
              refine HA5.out.mono ?_
              rintro e w12 ⟨rfl, hm12⟩
              have HN8 := Lib.hid (HN7.out.mv hm12)
              have HA6 := Lib.hid (rat_none X l r 0 0 5 h5l (by decide) hl w12 HN8.out.rr)
              have HIS := Lib.hid (fun w => is_at 0 1 false (by decide) (by decide) (by decide) w)
              clear hm12 HA5 h5l
              go_wp2_with fail
              refine HA6.out.mono ?_
              rintro e w13 ⟨rfl, hm13⟩
              have HN9 := Lib.hid (HN8.out.mv hm13)
              clear hm13 HA6
              go_wp2_with fail
              refine (HIS.out _).mono ?_
              rintro e w14 ⟨rfl, hw14⟩
              obtain rfl : w13 = w14 := hw14.symm
              clear hw14
              go_wp2_with fail
              go_meet
              exact ⟨by rw [HG.out], HN9.out⟩
            | some c5 =>
              have HG := Lib.hid (show headM (n0 == 0) r = (bl c5 || c5 == 63) by rw [headM, HZ.out, HE3.out, h5]; rfl)
              have HA5 := Lib.hid (rat_some X l r 0 0 5 c5 h5 hl w11 HN7.out.rr)
              have H5 := Lib.hid h5
              clear h5
              go_wp2_with fail
              refine HA5.out.mono ?_
              rintro e w12 ⟨rfl, hm12⟩
              have HN8 := Lib.hid (HN7.out.mv hm12)
              clear hm12 HA5
              by_cases h63 : c5 = 63
              · have hq : ((c5.toNat : Int) == 63) = true := by rw [h63]; rfl
                have HG2 := Lib.hid (show headM (n0 == 0) r = true by rw [HG.out, h63]; rfl)
                clear h63
                go_wp2_with fail
                go_meet
                exact ⟨by rw [HG2.out], HN8.out⟩
              · have hq : ((c5.toNat : Int) == 63) = false := u8_ne2 (d := 63) h63
                have HG2 := Lib.hid (show headM (n0 == 0) r = bl c5 by rw [HG.out, show (c5 == 63) = false by simpa using h63, Bool.or_false])
                have HA6 := Lib.hid (rat_some X l r 0 0 5 c5 H5.out hl w12 HN8.out.rr)
                have HIS := Lib.hid (fun w => is_at (c5.toNat : Int) 1 (bl c5) (by decide) (by decide) (by rw [(cls_all _).1]; rfl) w)
                clear h63
                go_wp2_with fail
                refine HA6.out.mono ?_
                rintro e w13 ⟨rfl, hm13⟩
                have HN9 := Lib.hid (HN8.out.mv hm13)
                clear hm13 HA6
                go_wp2_with fail
                refine (HIS.out _).mono ?_
                rintro e w14 ⟨rfl, hw14⟩
                obtain rfl : w13 = w14 := hw14.symm
                clear hw14
                go_wp2_with fail
                go_meet
                exact ⟨by rw [HG2.out], HN9.out⟩
        · have hzb : ((n0 : Int) == 0) = false := by simpa using hz
          have HZ := Lib.hid (show (n0 == 0) = false by simpa using hz)
          clear hz
          go_wp2_with fail
          go_meet
          exact ⟨by rw [headM, HZ.out]; rfl, HN6.out⟩
      case rest =>
        obtain ⟨rfl, hnc⟩ := hcut
        have HNC := Lib.hid hnc
        clear hnc c0' c1 c2 c3
        generalize hb3 : headM (n0 == 0) r = b3
        have HE3 := Lib.hid hb3
        clear hb3
        cases b3 with
        | true =>
          have z0 := HNC.out.cells.1.1
          have f0 := HNC.out.frozen 0
          have HK1 := Lib.hid (HNC.out.kind 6)
          go_upto_region 15 with fail
          clear z0 f0
          generalize wc.setCell ⟨Tb, 0, none⟩ (.int .i64 6) = w20 at HK1 ⊢
          have HPL := Lib.hid ((rplain_at X l r headB 5 (by have h5 := HE3.out; simp only [headM, Bool.and_eq_true] at h5; exact (List.isPrefixOf_iff_prefix.1 h5.1.2).length_le) (by decide) rfl hl w20 HK1.out.rr).mono fun e w' h => text_two (ne_bet _ _ _) h)
          go_wp2_with fail
          refine HPL.out.mono ?_
          rintro e w21 ⟨t, e0, o0, r1, rfl, hm21, hM⟩
          have HK2 := Lib.hid (HK1.out.mv hm21)
          have HM := Lib.hid hM
          have z3 := HK2.out.cells.1.2.2.2
          have f3 := HK2.out.frozen 3
          have HK3 := Lib.hid (HK2.out.text t)
          clear hm21 hM HPL
          go_upto_region 16 with fail
          clear z3 f3
          generalize w21.setCell ⟨Tb, 3, none⟩ (.string (str t)) = w22 at HK3 ⊢
          obtain ⟨⟨z0, z1, z2, z3⟩, z4, z5, z6⟩ := HK3.out.cells
          have HROW := Lib.hid HK3.out.rrow
          go_wp2_with (refine wpList_store_row rfl 51 _ _ rfl Rb (tkC 6 [] (.slice none 0 0) t (n0 : Int) (lineS (preO l r)) (colS (preO l r))) rfl rfl 51 _ HROW.out (by kernel_rfl) rfl (by simp [Value.oneCell']) ?_)
          refine bodyPost_ret (nx_results _ _ Rb (tkC 6 [] (.slice none 0 0) t (n0 : Int) (lineS (preO l r)) (colS (preO l r))) rfl rfl (setRow_heap _ Rb _ _ _ _ HROW.out)) rfl ?_
          exact nx_text HN0.out (by rw [HR0.out]; rw [HR0.out] at HE1 HE2 HE3; exact piece_head HE1.out HE2.out HE3.out) HM.out HK3.out
        | false =>
          have HA0 := Lib.hid (rat_some X l r 0 0 0 c0 (by rw [HR0.out]; rfl) hl wc HNC.out.rr)
          go_wp2_with fail
          refine HA0.out.mono ?_
          rintro e w11 ⟨rfl, hm11⟩
          have HN7 := Lib.hid (HNC.out.mv hm11)
          clear hm11 HA0
          by_cases h60 : c0 = 60
          case neg =>
            have hqb : ((c0.toNat : Int) == 60) = false := u8_ne2 (d := 60) h60
            have hq : ((c0.toNat : Int) != 60) = true := by rw [bne, hqb]; rfl
            have H60 := Lib.hid h60
            clear h60
            have z0 := HN7.out.cells.1.1
            have f0 := HN7.out.frozen 0
            have HK1 := Lib.hid (HN7.out.kind 4)
            go_upto_region 19 with fail
            clear z0 f0
            generalize w11.setCell ⟨Tb, 0, none⟩ (.int .i64 4) = w20 at HK1 ⊢
            have HPL := Lib.hid ((rletters_at X l r 60 hl w20 HK1.out.rr).mono fun e w' h => text_two (ne_let _ _ _ _ _) h)
            go_wp2_with fail
            refine HPL.out.mono ?_
            rintro e w21 ⟨t, e0, o0, r1, rfl, hm21, hM⟩
            have HK2 := Lib.hid (HK1.out.mv hm21)
            have HM := Lib.hid hM
            have z3 := HK2.out.cells.1.2.2.2
            have f3 := HK2.out.frozen 3
            have HK3 := Lib.hid (HK2.out.text t)
            clear hm21 hM HPL
            go_upto_region 20 with fail
            clear z3 f3
            generalize w21.setCell ⟨Tb, 3, none⟩ (.string (str t)) = w22 at HK3 ⊢
            obtain ⟨⟨z0, z1, z2, z3⟩, z4, z5, z6⟩ := HK3.out.cells
            have HROW := Lib.hid HK3.out.rrow
            go_wp2_with (refine wpList_store_row rfl 51 _ _ rfl Rb (tkC 4 [] (.slice none 0 0) t (n0 : Int) (lineS (preO l r)) (colS (preO l r))) rfl rfl 51 _ HROW.out (by kernel_rfl) rfl (by simp [Value.oneCell']) ?_)
            refine bodyPost_ret (nx_results _ _ Rb (tkC 4 [] (.slice none 0 0) t (n0 : Int) (lineS (preO l r)) (colS (preO l r))) rfl rfl (setRow_heap _ Rb _ _ _ _ HROW.out)) rfl ?_
            exact nx_text HN0.out (by rw [HR0.out]; exact piece_text H60.out) HM.out HK3.out
          case pos =>
            subst h60
            have hq : (((60 : UInt8).toNat : Int) != 60) = false := rfl
            have HSUF1 := Lib.hid (show r0 <:+ l from (List.suffix_cons 60 r0).trans (by have := HSUF.out; rw [HR0.out] at this; exact this))
            have HPT := Lib.hid (piece_tag (o := n0) (r1 := r0) (by have := HE1.out; rw [HR0.out] at this; exact this) (by have := HE2.out; rw [HR0.out] at this; exact this) (by have := HE3.out; rw [HR0.out] at this; exact this))
            rw [show N2 w X Rb Tb l r 0 0 0 [] [] (.slice none 0 0) [] (n0 : Int) (lineS (preO l r)) (colS (preO l r)) w11 = N2 w X Rb Tb l (60 :: r0) 0 0 0 [] [] (.slice none 0 0) [] (n0 : Int) (lineS (preO l r)) (colS (preO l r)) w11 from congrArg (fun z => N2 w X Rb Tb l z 0 0 0 [] [] (.slice none 0 0) [] (n0 : Int) (lineS (preO l r)) (colS (preO l r)) w11) HR0.out] at HN7
            obtain ⟨c0', c1, c2, c3⟩ := HN7.out.rr.cells
            have f1 := HN7.out.rr.frozen 1
            obtain ⟨n8, hn8⟩ : ∃ m, m = l.length - (60 :: r0).length := ⟨_, rfl⟩
            rw [← hn8] at c1
            have hll := suf_len HN7.out.rr.1
            have hn8I : (n8 : Int) ≤ 1000000 := by omega
            have hp := RM.put HN7.out.rr HSUF1.out ((n8 : Int) + 1) (by rw [hn8]; simp only [List.length_cons] at hll ⊢; omega)
            have HN8 := Lib.hid (HN7.out.mv hp)
            clear hp hll hn8
            go_upto_region 22 with fail
            generalize w11.setCell ⟨X, 1, none⟩ (.int .i64 ((n8 : Int) + 1)) = w12 at HN8 ⊢
            clear c0' c1 c2 c3 f1
            go_cut [85] from 6 to 130 (fun t wx => t = .bool (decide ((r0).head? = some 47)) ∧ N2 w X Rb Tb l r0 0 0 0 [] [] (.slice none 0 0) [] (n0 : Int) (lineS (preO l r)) (colS (preO l r)) wx)
            case first =>
              have hsp : r0 = [] ∨ ∃ d rz, r0 = d :: rz := by cases r0 with | nil => exact .inl rfl | cons d rz => exact .inr ⟨d, rz, rfl⟩
              rcases hsp with hrr | ⟨d, rz, hrr⟩
              · rw [hrr] at HN8
                have HRR := Lib.hid hrr
                have HA0 := Lib.hid (rat_none X l [] 0 0 0 (Nat.le_refl _) (by decide) hl w12 HN8.out.rr)
                clear hrr
                go_wp2_with fail
                refine HA0.out.mono ?_
                rintro e wz ⟨rfl, hmz⟩
                have HZ := Lib.hid (HN8.out.mv hmz)
                clear hmz HA0
                go_wp2_with fail
                go_meet
                exact ⟨by rw [HRR.out]; rfl, by rw [HRR.out]; exact HZ.out⟩
              · rw [hrr] at HN8
                have HRR := Lib.hid hrr
                have HA0 := Lib.hid (rat_some X l (d :: rz) 0 0 0 d rfl hl w12 HN8.out.rr)
                clear hrr
                go_wp2_with fail
                refine HA0.out.mono ?_
                rintro e wz ⟨rfl, hmz⟩
                have HZ := Lib.hid (HN8.out.mv hmz)
                clear hmz HA0
                by_cases h47 : d = 47
                · have hq : ((d.toNat : Int) == 47) = true := by rw [h47]; rfl
                  have HD := Lib.hid h47
                  clear h47
                  go_wp2_with fail
                  go_meet
                  exact ⟨by rw [HRR.out, HD.out]; rfl, by rw [HRR.out]; exact HZ.out⟩
                · have hq : ((d.toNat : Int) == 47) = false := u8_ne2 (d := 47) h47
                  have HD := Lib.hid (show decide ((d :: rz).head? = some 47) = false by simpa using h47)
                  clear h47
                  go_wp2_with fail
                  go_meet
                  exact ⟨by rw [HRR.out, HD.out], by rw [HRR.out]; exact HZ.out⟩
            case rest =>
              obtain ⟨rfl, hnd⟩ := hcut
              have HC1 := Lib.hid hnd
              clear hnd
              by_cases h47 : r0.head? = some 47
              · obtain ⟨r2, hr2⟩ : ∃ r2, r0 = 47 :: r2 := by
                  cases r0 with
                  | nil => simp at h47
                  | cons c r2 => simp at h47; exact ⟨r2, by rw [h47]⟩
                subst hr2
                have hdd : decide ((47 :: r2 : List UInt8).head? = some 47) = true := rfl
                have HSUF2 := Lib.hid (show r2 <:+ l from (List.suffix_cons 47 r2).trans HSUF1.out)
                rw [hdd]
                clear hdd
                obtain ⟨c0', c1, c2, c3⟩ := HC1.out.rr.cells
                have f1 := HC1.out.rr.frozen 1
                obtain ⟨n1, hn1⟩ : ∃ m, m = l.length - (47 :: r2).length := ⟨_, rfl⟩
                rw [← hn1] at c1
                have hll := suf_len HC1.out.rr.1
                have hn1I : (n1 : Int) ≤ 1000000 := by omega
                have hp := RM.put HC1.out.rr HSUF2.out ((n1 : Int) + 1) (by rw [hn1]; simp only [List.length_cons] at hll ⊢; omega)
                have HC2 := Lib.hid (HC1.out.mv hp)
                clear hp hll hn1
                go_upto_region 24 with fail
                generalize wc.setCell ⟨X, 1, none⟩ (.int .i64 ((n1 : Int) + 1)) = w20 at HC2 ⊢
                clear c0' c1 c2 c3 f1
                have z0 := HC2.out.cells.1.1
                have f0 := HC2.out.frozen 0
                have HK2 := Lib.hid (HC2.out.kind 3)
                go_upto_region 25 with fail
                clear z0 f0
                generalize w20.setCell ⟨Tb, 0, none⟩ (.int .i64 3) = w21 at HK2 ⊢
                have HNM := Lib.hid ((rname_at X l r2 11 hl w21 HK2.out.rr).mono fun e w' h => name_two (by decide) h)
                go_wp2_with fail
                refine HNM.out.mono ?_
                rintro e w22 ⟨n, e0, o0, r5, rfl, hm22, hnm⟩
                have HK3 := Lib.hid (HK2.out.mv hm22)
                have HNM2 := Lib.hid hnm
                have z1 := HK3.out.cells.1.2.1
                have f1 := HK3.out.frozen 1
                have HK4 := Lib.hid (HK3.out.name n)
                clear hm22 hnm HNM
                go_upto_region 26 with fail
                clear z1 f1
                generalize w22.setCell ⟨Tb, 1, none⟩ (.string (str n)) = w23 at HK4 ⊢
                have HBL := Lib.hid (rblanks_at X l r5 e0 o0 hl w23 HK4.out.rr)
                go_wp2_with fail
                refine HBL.out.mono ?_
                rintro e w24 ⟨rfl, hm24⟩
                have HK5 := Lib.hid (HK4.out.mv hm24)
                clear hm24 HBL
                rcases HNM2.out with ⟨h1, h2, hM⟩ | ⟨h1, h2, r6, hM, h3⟩
                · subst h1
                  subst h2
                  have HM := Lib.hid hM
                  clear hM
                  have HWT := Lib.hid (rwant_at X l (blanksM r5) 62 hl w24 HK5.out.rr)
                  have HEQ := Lib.hid (show pieceM n0 r = (mustM 62 (blanksM r5)).bind fun _ r4 => .ok ⟨3, n, [], [], n0⟩ r4 by
                    rw [HR0.out, HPT.out, if_pos (show (47 :: r2 : List UInt8).head? = some 47 from rfl)]
                    show ((closeM r2).bind _ : Rs Tk) = _
                    rw [closeM, HM.out]
                    show (((mustM 62 (blanksM r5)).bind _).bind _ : Rs Tk) = _
                    cases mustM 62 (blanksM r5) <;> rfl)
                  cases hMM : mustM 62 (blanksM r5) with
                  | bad e6 r6 =>
                    have HFIN := Lib.hid (show pieceM n0 r = .bad e6 r6 by rw [HEQ.out, hMM]; rfl)
                    rw [hMM] at HWT
                    clear hMM
                    go_wp2_with fail
                    refine HWT.out.mono ?_
                    rintro e w30 ⟨rfl, r7, hm30⟩
                    have HW := Lib.hid (HK5.out.mv hm30)
                    clear hm30 HWT
                    obtain ⟨⟨z0, z1, z2, z3⟩, z4, z5, z6⟩ := HW.out.cells
                    have HROW := Lib.hid HW.out.rrow
                    go_wp2_with (refine wpList_store_row rfl 51 _ _ rfl Rb (tkC 3 n (.slice none 0 0) [] (n0 : Int) (lineS (preO l r)) (colS (preO l r))) rfl rfl 51 _ HROW.out (by kernel_rfl) rfl (by simp [Value.oneCell']) ?_)
                    refine bodyPost_ret (nx_results _ _ Rb (tkC 3 n (.slice none 0 0) [] (n0 : Int) (lineS (preO l r)) (colS (preO l r))) rfl rfl (setRow_heap _ Rb _ _ _ _ HROW.out)) rfl ?_
                    exact nx_bad HN0.out HFIN.out HW.out rfl
                  | ok u r6 =>
                    have HFIN := Lib.hid (show pieceM n0 r = .ok ⟨3, n, [], [], n0⟩ r6 by rw [HEQ.out, hMM]; rfl)
                    rw [hMM] at HWT
                    clear hMM
                    go_wp2_with fail
                    refine HWT.out.mono ?_
                    rintro e w30 ⟨rfl, hm30⟩
                    have HW := Lib.hid (HK5.out.mv hm30)
                    clear hm30 HWT
                    obtain ⟨⟨z0, z1, z2, z3⟩, z4, z5, z6⟩ := HW.out.cells
                    have HROW := Lib.hid HW.out.rrow
                    go_wp2_with (refine wpList_store_row rfl 51 _ _ rfl Rb (tkC 3 n (.slice none 0 0) [] (n0 : Int) (lineS (preO l r)) (colS (preO l r))) rfl rfl 51 _ HROW.out (by kernel_rfl) rfl (by simp [Value.oneCell']) ?_)
                    refine bodyPost_ret (nx_results _ _ Rb (tkC 3 n (.slice none 0 0) [] (n0 : Int) (lineS (preO l r)) (colS (preO l r))) rfl rfl (setRow_heap _ Rb _ _ _ _ HROW.out)) rfl ?_
                    exact nx_fin (x := ⟨3, n, [], [], n0⟩) HN0.out HFIN.out HW.out
                · have HCB := Lib.hid (show (e0 == 0) = false by simpa using h1)
                  have HFIN := Lib.hid (show pieceM n0 r = .bad e0 r6 by
                    rw [HR0.out, HPT.out, if_pos (show (47 :: r2 : List UInt8).head? = some 47 from rfl)]
                    show ((closeM r2).bind _ : Rs Tk) = _
                    rw [closeM, hM]
                    rfl)
                  have HO := Lib.hid h3
                  clear h1 h2 hM h3
                  have HWT := Lib.hid (rwant_bad X l (blanksM r5) e0 o0 62 HCB.out w24 HK5.out.rr)
                  go_wp2_with fail
                  refine HWT.out.mono ?_
                  rintro e w30 ⟨rfl, hm30⟩
                  have HW := Lib.hid (HK5.out.mv hm30)
                  clear hm30 HWT
                  obtain ⟨⟨z0, z1, z2, z3⟩, z4, z5, z6⟩ := HW.out.cells
                  have HROW := Lib.hid HW.out.rrow
                  go_wp2_with (refine wpList_store_row rfl 51 _ _ rfl Rb (tkC 3 n (.slice none 0 0) [] (n0 : Int) (lineS (preO l r)) (colS (preO l r))) rfl rfl 51 _ HROW.out (by kernel_rfl) rfl (by simp [Value.oneCell']) ?_)
                  refine bodyPost_ret (nx_results _ _ Rb (tkC 3 n (.slice none 0 0) [] (n0 : Int) (lineS (preO l r)) (colS (preO l r))) rfl rfl (setRow_heap _ Rb _ _ _ _ HROW.out)) rfl ?_
                  exact nx_bad HN0.out HFIN.out HW.out HO.out
              · have hdd : decide (r0.head? = some 47) = false := decide_eq_false h47
                rw [hdd]
                clear hdd
                have z0 := HC1.out.cells.1.1
                have f0 := HC1.out.frozen 0
                have HK2 := Lib.hid (HC1.out.kind 1)
                go_upto_region 30 with fail
                clear z0 f0
                generalize wc.setCell ⟨Tb, 0, none⟩ (.int .i64 1) = w21 at HK2 ⊢
                have HNM := Lib.hid ((rname_at X l r0 11 hl w21 HK2.out.rr).mono fun e w' h => name_two (by decide) h)
                go_wp2_with fail
                refine HNM.out.mono ?_
                rintro e w22 ⟨n, e0, o0, r5, rfl, hm22, hnm⟩
                have HK3 := Lib.hid (HK2.out.mv hm22)
                have HNM2 := Lib.hid hnm
                have z1 := HK3.out.cells.1.2.1
                have f1 := HK3.out.frozen 1
                have HK4 := Lib.hid (HK3.out.name n)
                clear hm22 hnm HNM
                go_upto_region 31 with fail
                clear z1 f1
                generalize w22.setCell ⟨Tb, 1, none⟩ (.string (str n)) = w23 at HK4 ⊢
                rcases HNM2.out with ⟨h1, h2, hM⟩ | ⟨h1, h2, r6, hM, h3⟩
                · subst h1
                  subst h2
                  have HOP := Lib.hid (show pieceM n0 r = ((attrsR (r5.length + 1) [] r5).bind (endM n)).bind fun x r2 => .ok ⟨x.1, x.2.1, x.2.2, [], n0⟩ r2 by
                    rw [HR0.out, HPT.out, if_neg h47, openM_eqR, hM]
                    rfl)
                  have HAA := Lib.hid (rattrs_at X l r5 hl w23 HK4.out.rr)
                  clear hM
                  cases hA : attrsR (r5.length + 1) [] r5 with
                  | bad e6 r6 =>
                    have HCB := Lib.hid (show (e6 == 0) = false by simpa using ne_attrsR _ _ _ _ _ hA)
                    have HFIN := Lib.hid (show pieceM n0 r = .bad e6 r6 by rw [HOP.out, hA]; rfl)
                    rw [hA] at HAA
                    clear hA
                    go_wp2_with fail
                    refine HAA.out.mono ?_
                    rintro e w24 ⟨rfl, r7, hm24⟩
                    have HK5 := Lib.hid (HK4.out.mv hm24)
                    have z2 := HK5.out.cells.1.2.2.1
                    have f2 := HK5.out.frozen 2
                    have HK6 := Lib.hid (HK5.out.attrs (ats' := []) (va' := .slice none 0 0) (World.ownsRow_nil _ _ _ _))
                    clear hm24 HAA
                    go_upto_region 32 with fail
                    clear z2 f2
                    generalize w24.setCell ⟨Tb, 2, none⟩ (.slice none 0 0) = w25 at HK6 ⊢
                    obtain ⟨c0', c1, c2, c3⟩ := HK6.out.rr.cells
                    have hcb := HCB.out
                    have HWT := Lib.hid (rwant_bad X l r7 e6 _ 62 HCB.out w25 HK6.out.rr)
                    go_wp2_with fail
                    refine HWT.out.mono ?_
                    rintro e w30 ⟨rfl, hm30⟩
                    have HW := Lib.hid (HK6.out.mv hm30)
                    clear hm30 HWT
                    obtain ⟨⟨z0, z1, z2, z3⟩, z4, z5, z6⟩ := HW.out.cells
                    have HROW := Lib.hid HW.out.rrow
                    go_wp2_with (refine wpList_store_row rfl 51 _ _ rfl Rb (tkC 1 n (.slice none 0 0) [] (n0 : Int) (lineS (preO l r)) (colS (preO l r))) rfl rfl 51 _ HROW.out (by kernel_rfl) rfl (by simp [Value.oneCell']) ?_)
                    refine bodyPost_ret (nx_results _ _ Rb (tkC 1 n (.slice none 0 0) [] (n0 : Int) (lineS (preO l r)) (colS (preO l r))) rfl rfl (setRow_heap _ Rb _ _ _ _ HROW.out)) rfl ?_
                    exact nx_bad HN0.out HFIN.out HW.out rfl
                  | ok ats r6 =>
                    have HOP2 := Lib.hid (show pieceM n0 r = (endM n ats r6).bind fun x r2 => .ok ⟨x.1, x.2.1, x.2.2, [], n0⟩ r2 by rw [HOP.out, hA]; rfl)
                    rw [hA] at HAA
                    clear hA
                    go_wp2_with fail
                    refine HAA.out.mono ?_
                    rintro e w24 ⟨va, rfl, ha24⟩
                    have HK5 := Lib.hid (HK4.out.mv ha24.rm)
                    obtain ⟨aa, ac, hv⟩ := RdSl.shape ha24.rd
                    subst hv
                    have z2 := HK5.out.cells.1.2.2.1
                    have f2 := HK5.out.frozen 2
                    have HK6 := Lib.hid (HK5.out.attrs (own_mono2 ha24.own (by have := HK4.out.lt; omega)))
                    clear ha24 HAA
                    go_upto_region 32 with fail
                    clear z2 f2
                    generalize w24.setCell ⟨Tb, 2, none⟩ (.slice aa ats.length ac) = w25 at HK6 ⊢
                    go_cut [118] from 6 to 130 (fun t wx => t = .bool (decide ((r6).head? = some 47)) ∧ N2 w X Rb Tb l r6 0 0 1 n ats (.slice aa ats.length ac) [] (n0 : Int) (lineS (preO l r)) (colS (preO l r)) wx)
                    case first =>
                      have c2 := HK6.out.rr.cells.2.2.1
                      have hsp : r6 = [] ∨ ∃ d rz, r6 = d :: rz := by cases r6 with | nil => exact .inl rfl | cons d rz => exact .inr ⟨d, rz, rfl⟩
                      rcases hsp with hrr | ⟨d, rz, hrr⟩
                      · rw [hrr] at HK6
                        have HRR := Lib.hid hrr
                        have HA0 := Lib.hid (rat_none X l [] 0 0 0 (Nat.le_refl _) (by decide) hl w25 HK6.out.rr)
                        clear hrr
                        go_wp2_with fail
                        refine HA0.out.mono ?_
                        rintro e wz ⟨rfl, hmz⟩
                        have HZ := Lib.hid (HK6.out.mv hmz)
                        clear hmz HA0
                        go_wp2_with fail
                        go_meet
                        exact ⟨by rw [HRR.out]; rfl, by rw [HRR.out]; exact HZ.out⟩
                      · rw [hrr] at HK6
                        have HRR := Lib.hid hrr
                        have HA0 := Lib.hid (rat_some X l (d :: rz) 0 0 0 d rfl hl w25 HK6.out.rr)
                        clear hrr
                        go_wp2_with fail
                        refine HA0.out.mono ?_
                        rintro e wz ⟨rfl, hmz⟩
                        have HZ := Lib.hid (HK6.out.mv hmz)
                        clear hmz HA0
                        by_cases h47 : d = 47
                        · have hq : ((d.toNat : Int) == 47) = true := by rw [h47]; rfl
                          have HD := Lib.hid h47
                          clear h47
                          go_wp2_with fail
                          go_meet
                          exact ⟨by rw [HRR.out, HD.out]; rfl, by rw [HRR.out]; exact HZ.out⟩
                        · have hq : ((d.toNat : Int) == 47) = false := u8_ne2 (d := 47) h47
                          have HD := Lib.hid (show decide ((d :: rz).head? = some 47) = false by simpa using h47)
                          clear h47
                          go_wp2_with fail
                          go_meet
                          exact ⟨by rw [HRR.out, HD.out], by rw [HRR.out]; exact HZ.out⟩
                    case rest =>
                      obtain ⟨rfl, hnd⟩ := hcut
                      have HD1 := Lib.hid hnd
                      clear hnd
                      by_cases hd : r6.head? = some 47
                      · obtain ⟨r7, hr7⟩ : ∃ r7, r6 = 47 :: r7 := by
                          cases r6 with
                          | nil => simp at hd
                          | cons c r7 => simp at hd; exact ⟨r7, by rw [hd]⟩
                        subst hr7
                        have hdd : decide ((47 :: r7 : List UInt8).head? = some 47) = true := rfl
                        rw [hdd]
                        clear hd hdd
                        have z0 := HD1.out.cells.1.1
                        have f0 := HD1.out.frozen 0
                        have HD2 := Lib.hid (HD1.out.kind 2)
                        go_upto_region 34 with fail
                        clear z0 f0
                        generalize wc.setCell ⟨Tb, 0, none⟩ (.int .i64 2) = w26 at HD2 ⊢
                        have HSUF7 := Lib.hid (show r7 <:+ l from (List.suffix_cons 47 r7).trans HD2.out.rr.1)
                        obtain ⟨c0', c1, c2, c3⟩ := HD2.out.rr.cells
                        have f1 := HD2.out.rr.frozen 1
                        obtain ⟨n7, hn7⟩ : ∃ m, m = l.length - (47 :: r7).length := ⟨_, rfl⟩
                        rw [← hn7] at c1
                        have hll := suf_len HD2.out.rr.1
                        have hn7I : (n7 : Int) ≤ 1000000 := by omega
                        have hp := RM.put HD2.out.rr HSUF7.out ((n7 : Int) + 1) (by rw [hn7]; simp only [List.length_cons] at hll ⊢; omega)
                        have HD3 := Lib.hid (HD2.out.mv hp)
                        clear hp hll hn7
                        go_upto_region 35 with fail
                        generalize w26.setCell ⟨X, 1, none⟩ (.int .i64 ((n7 : Int) + 1)) = w27 at HD3 ⊢
                        clear c0' c1 c2 c3 f1
                        have HWT := Lib.hid (rwant_at X l r7 62 hl w27 HD3.out.rr)
                        have HEQ := Lib.hid (show pieceM n0 r = (mustM 62 (r7)).bind fun _ r4 => .ok ⟨2, n, ats, [], n0⟩ r4 by
                          rw [HOP2.out, endM_yes]
                          cases mustM 62 r7 <;> rfl)
                        cases hMM : mustM 62 (r7) with
                        | bad e6 r6 =>
                          have HFIN := Lib.hid (show pieceM n0 r = .bad e6 r6 by rw [HEQ.out, hMM]; rfl)
                          rw [hMM] at HWT
                          clear hMM
                          go_wp2_with fail
                          refine HWT.out.mono ?_
                          rintro e w30 ⟨rfl, r7, hm30⟩
                          have HW := Lib.hid (HD3.out.mv hm30)
                          clear hm30 HWT
                          obtain ⟨⟨z0, z1, z2, z3⟩, z4, z5, z6⟩ := HW.out.cells
                          have HROW := Lib.hid HW.out.rrow
                          go_wp2_with (refine wpList_store_row rfl 51 _ _ rfl Rb (tkC 2 n (.slice aa ats.length ac) [] (n0 : Int) (lineS (preO l r)) (colS (preO l r))) rfl rfl 51 _ HROW.out (by kernel_rfl) rfl (by simp [Value.oneCell']) ?_)
                          refine bodyPost_ret (nx_results _ _ Rb (tkC 2 n (.slice aa ats.length ac) [] (n0 : Int) (lineS (preO l r)) (colS (preO l r))) rfl rfl (setRow_heap _ Rb _ _ _ _ HROW.out)) rfl ?_
                          exact nx_bad HN0.out HFIN.out HW.out rfl
                        | ok u r6 =>
                          have HFIN := Lib.hid (show pieceM n0 r = .ok ⟨2, n, ats, [], n0⟩ r6 by rw [HEQ.out, hMM]; rfl)
                          rw [hMM] at HWT
                          clear hMM
                          go_wp2_with fail
                          refine HWT.out.mono ?_
                          rintro e w30 ⟨rfl, hm30⟩
                          have HW := Lib.hid (HD3.out.mv hm30)
                          clear hm30 HWT
                          obtain ⟨⟨z0, z1, z2, z3⟩, z4, z5, z6⟩ := HW.out.cells
                          have HROW := Lib.hid HW.out.rrow
                          go_wp2_with (refine wpList_store_row rfl 51 _ _ rfl Rb (tkC 2 n (.slice aa ats.length ac) [] (n0 : Int) (lineS (preO l r)) (colS (preO l r))) rfl rfl 51 _ HROW.out (by kernel_rfl) rfl (by simp [Value.oneCell']) ?_)
                          refine bodyPost_ret (nx_results _ _ Rb (tkC 2 n (.slice aa ats.length ac) [] (n0 : Int) (lineS (preO l r)) (colS (preO l r))) rfl rfl (setRow_heap _ Rb _ _ _ _ HROW.out)) rfl ?_
                          exact nx_fin (x := ⟨2, n, ats, [], n0⟩) HN0.out HFIN.out HW.out
                      · have hdd : decide (r6.head? = some 47) = false := decide_eq_false hd
                        have HHD := Lib.hid hd
                        rw [hdd]
                        clear hd hdd
                        have HWT := Lib.hid (rwant_at X l r6 62 hl wc HD1.out.rr)
                        have HEQ := Lib.hid (show pieceM n0 r = (mustM 62 (r6)).bind fun _ r4 => .ok ⟨1, n, ats, [], n0⟩ r4 by
                          rw [HOP2.out, endM_no n ats HHD.out]
                          cases mustM 62 r6 <;> rfl)
                        cases hMM : mustM 62 (r6) with
                        | bad e6 r6z =>
                          have HFIN := Lib.hid (show pieceM n0 r = .bad e6 r6z by rw [HEQ.out, hMM]; rfl)
                          rw [hMM] at HWT
                          clear hMM
                          go_wp2_with fail
                          refine HWT.out.mono ?_
                          rintro e w30 ⟨rfl, r7, hm30⟩
                          have HW := Lib.hid (HD1.out.mv hm30)
                          clear hm30 HWT
                          obtain ⟨⟨z0, z1, z2, z3⟩, z4, z5, z6⟩ := HW.out.cells
                          have HROW := Lib.hid HW.out.rrow
                          go_wp2_with (refine wpList_store_row rfl 51 _ _ rfl Rb (tkC 1 n (.slice aa ats.length ac) [] (n0 : Int) (lineS (preO l r)) (colS (preO l r))) rfl rfl 51 _ HROW.out (by kernel_rfl) rfl (by simp [Value.oneCell']) ?_)
                          refine bodyPost_ret (nx_results _ _ Rb (tkC 1 n (.slice aa ats.length ac) [] (n0 : Int) (lineS (preO l r)) (colS (preO l r))) rfl rfl (setRow_heap _ Rb _ _ _ _ HROW.out)) rfl ?_
                          exact nx_bad HN0.out HFIN.out HW.out rfl
                        | ok u r6z =>
                          have HFIN := Lib.hid (show pieceM n0 r = .ok ⟨1, n, ats, [], n0⟩ r6z by rw [HEQ.out, hMM]; rfl)
                          rw [hMM] at HWT
                          clear hMM
                          go_wp2_with fail
                          refine HWT.out.mono ?_
                          rintro e w30 ⟨rfl, hm30⟩
                          have HW := Lib.hid (HD1.out.mv hm30)
                          clear hm30 HWT
                          obtain ⟨⟨z0, z1, z2, z3⟩, z4, z5, z6⟩ := HW.out.cells
                          have HROW := Lib.hid HW.out.rrow
                          go_wp2_with (refine wpList_store_row rfl 51 _ _ rfl Rb (tkC 1 n (.slice aa ats.length ac) [] (n0 : Int) (lineS (preO l r)) (colS (preO l r))) rfl rfl 51 _ HROW.out (by kernel_rfl) rfl (by simp [Value.oneCell']) ?_)
                          refine bodyPost_ret (nx_results _ _ Rb (tkC 1 n (.slice aa ats.length ac) [] (n0 : Int) (lineS (preO l r)) (colS (preO l r))) rfl rfl (setRow_heap _ Rb _ _ _ _ HROW.out)) rfl ?_
                          exact nx_fin (x := ⟨1, n, ats, [], n0⟩) HN0.out HFIN.out HW.out
                · have HCB := Lib.hid (show (e0 == 0) = false by simpa using h1)
                  have HFIN := Lib.hid (show pieceM n0 r = .bad e0 r6 by
                    rw [HR0.out, HPT.out, if_neg h47, openM_eqR, hM]
                    rfl)
                  have HO := Lib.hid h3
                  have HAA := Lib.hid (rattrs_bad X l r5 e0 o0 HCB.out w23 HK4.out.rr)
                  clear h1 h2 hM h3
                  go_wp2_with fail
                  refine HAA.out.mono ?_
                  rintro e w24 ⟨rfl, hw24⟩
                  obtain rfl : w23 = w24 := hw24.symm
                  have z2 := HK4.out.cells.1.2.2.1
                  have f2 := HK4.out.frozen 2
                  have HK6 := Lib.hid (HK4.out.attrs (ats' := []) (va' := .slice none 0 0) (World.ownsRow_nil _ _ _ _))
                  clear hw24 HAA
                  go_upto_region 32 with fail
                  clear z2 f2
                  generalize w23.setCell ⟨Tb, 2, none⟩ (.slice none 0 0) = w25 at HK6 ⊢
                  obtain ⟨c0', c1, c2, c3⟩ := HK6.out.rr.cells
                  have hcb := HCB.out
                  have HWT := Lib.hid (rwant_bad X l r5 e0 o0 62 HCB.out w25 HK6.out.rr)
                  go_wp2_with fail
                  refine HWT.out.mono ?_
                  rintro e w30 ⟨rfl, hm30⟩
                  have HW := Lib.hid (HK6.out.mv hm30)
                  clear hm30 HWT
                  obtain ⟨⟨z0, z1, z2, z3⟩, z4, z5, z6⟩ := HW.out.cells
                  have HROW := Lib.hid HW.out.rrow
                  go_wp2_with (refine wpList_store_row rfl 51 _ _ rfl Rb (tkC 1 n (.slice none 0 0) [] (n0 : Int) (lineS (preO l r)) (colS (preO l r))) rfl rfl 51 _ HROW.out (by kernel_rfl) rfl (by simp [Value.oneCell']) ?_)
                  refine bodyPost_ret (nx_results _ _ Rb (tkC 1 n (.slice none 0 0) [] (n0 : Int) (lineS (preO l r)) (colS (preO l r))) rfl rfl (setRow_heap _ Rb _ _ _ _ HROW.out)) rfl ?_
                  exact nx_bad HN0.out HFIN.out HW.out HO.out
end
/-! Rf2i -/
section
open Go.RowKit

/-- on the way through a text: the reader in X, the tokens so far in v -/
structure B2 (w : World) (X : Nat) (l r : List UInt8) (acc : List (Tm × Value)) (v : Value) (wk : World) : Prop where
  rr : RR wk X l r 0 0
  b : Below w.heap.size w wk
  o : wk.ownsRow (X + 1) 51 7 v acc.length (rowTs acc)
  a : ∀ p ∈ acc, wk.ownsRow (X + 1) 68 2 p.2 p.1.ats.length (rowAs p.1.ats)
  n : w.heap.size ≤ X
section
variable {w wk wk' : World} {X : Nat} {l r r' : List UInt8} {acc : List (Tm × Value)} {v : Value}
theorem B2.mv (h : B2 w X l r acc v wk) (hm : RM X l r' 0 0 wk wk') : B2 w X l r' acc v wk' := by
  have hn := h.n
  exact ⟨hm.1, h.b.trans ⟨hm.2.os, hm.2.tape, hm.2.output, hm.2.size, fun k hk => hm.2.block k (by have := h.b.size; omega) (by simp; omega)⟩,
    own_x h.o hm.2 (by omega), fun p hp => own_x (h.a p hp) hm.2 (by omega), h.n⟩
theorem B2.below (h : B2 w X l r acc v wk) (hb : Below wk.heap.size wk wk') : B2 w X l r acc v wk' := h.mv (RM.below h.rr hb)
theorem B2.push {v' va : Value} {x : Tm} (h : B2 w X l r acc v wk) (hva : wk.ownsRow (X + 1) 68 2 va x.ats.length (rowAs x.ats)) (ho : wk'.ownsRow (X + 1) 51 7 v' (acc.length + 1) (rowTs acc ++ tmL x va)) (hg : wk.grownBy wk' v.ownBlock) :
    B2 w X l r (acc ++ [(x, va)]) v' wk' := by
  have hn := h.n
  have hlt : ∀ q, v.ownBlock = some q → X + 1 ≤ q := fun q hq => (h.o.lt q hq).1
  have hX := h.rr.lt
  have hb : Below (X + 1) wk wk' := (Below.refl _ _).grown hg (by omega) hlt
  refine ⟨⟨h.rr.1, (hb.block X (by omega)).trans h.rr.2⟩, h.b.trans (hb.mono (by omega)), ?_, ?_, h.n⟩
  · rw [List.length_append, List.length_singleton, rowTs_snoc]
    exact ho
  · intro p hp
    rcases List.mem_append.1 hp with hp | hp
    · exact (h.a p hp).kept hg (own_types (h.a p hp) h.o (by decide))
    · rw [List.mem_singleton] at hp
      subst hp
      exact hva.kept hg (own_types hva h.o (by decide))
theorem B2.rd (h : B2 w X l r acc v wk) : RdTs wk v (acc.map (·.1)) := RdTs.of_own h.o fun p hp => RdAs.of_own (h.a p hp)
end
/-- a token behind a row of one's own -/
theorem appT2 {ops : Array Oper} {rest : List Oper} {o : Oper} {a : Act} {Q : Exit → Act → World → Prop} {w0 : World} (p : Tm) (va : Value) (hva : va.oneCell' = true) (hgd : o.guard = none) (s x : Operand)
    (ho : o.op = .call { callee := .builtin .append, args := #[s, x], argTypes := #[42, 42] }) (base n : Nat)
    (v : Value) (xs : List Value) (hs : a.eval s = v) (hown : w0.ownsRow base 51 7 v n xs) (hx : a.eval x = .slice (some ⟨w0.heap.size, 0, none⟩) 1 1)
    (h63 : n ≤ 10000000) (hbase : base ≤ w0.heap.size)
    (h : ∀ v' w', w'.ownsRow base 51 7 v' (n + 1) (xs ++ tmL p va) → w0.grownBy w' v.ownBlock → wpList Tryz.prog ops Q rest (a.put o.dst v') w') :
    wpList Tryz.prog ops Q (o :: rest) a (w0.alloc (.cells #[.int .i64 p.k, .string (str p.n), va, .string (str p.t), .int .i64 p.po, .int .i64 p.pl, .int .i64 p.pc] 51)) := by
  obtain ⟨i, hi, hz, hsize, hby⟩ := info_parts token_info
  refine wpList_append_own _ hgd s x _ ho base 51 i _ 7 88 Tryz.underlying42 hi hz hsize hby rfl (by omega) v n xs hs (hown.alloc _) ⟨w0.heap.size, 0, none⟩ 1 1 (tmL p va) hx rfl ?_ ?_ (by simp only [maxLen]; omega) (by omega) (by simp; omega) ?_
  · intro j y hj
    rw [show (⟨w0.heap.size, 0, none⟩ : Addr).add j = ⟨w0.heap.size, j, none⟩ by unfold Addr.add; split <;> simp_all, World.cell?_alloc_at _ _ _ _ rfl]
    simpa [tmL] using hj
  · intro u hu
    simp only [tmL, List.mem_cons, List.not_mem_nil, or_false] at hu
    rcases hu with rfl | rfl | rfl | rfl | rfl | rfl | rfl <;> first | rfl | exact hva
  · intro v' w' ho' hg _
    exact h v' w' ho' ⟨hg.os, hg.tape, hg.output, Nat.le_trans (by simp) hg.size, fun k hk hne => (hg.block k (by simp; omega) hne).trans (Below.heap_alloc _ _ _ hk)⟩
theorem nx_two {X : Nat} {l r : List UInt8} {w w' : World} {e : Ending} (h : NxQ X l r w e w') :
    (∃ c r2 k n a m q t p0 p1 p2 r', pieceM (l.length - r.length) r = .bad c r2 ∧ e = .returned (.agg (tkC k n (.slice a m q) t p0 p1 p2)) ∧ RM X l r' c ((l.length - r2.length : Nat) : Int) w w') ∨
      ∃ x r5 va, pieceM (l.length - r.length) r = .ok x r5 ∧ e = .returned (.agg (tmL (x.mem l) va).toArray) ∧ RM X l r5 0 0 w w' ∧ w'.ownsRow w.heap.size 68 2 va x.ats.length (rowAs x.ats) := by
  unfold NxQ at h
  cases hM : pieceM (l.length - r.length) r with
  | bad e5 r5 => simp only [hM] at h; obtain ⟨⟨k, n, a, m, q, t, p0, p1, p2, he⟩, r', hm⟩ := h; exact .inl ⟨e5, r5, k, n, a, m, q, t, p0, p1, p2, r', rfl, he, hm⟩
  | ok x r5 => simp only [hM] at h; obtain ⟨hm, va, rfl, ho⟩ := h; exact .inr ⟨x, r5, va, rfl, rfl, hm, ho⟩
/-- what the answer's All leaves -/
def RAllP (l : List UInt8) (w : World) (e : Ending) (w' : World) : Prop :=
  Below w.heap.size w w' ∧ match allM l with
    | .ok ts _ => ∃ v, e = .returned (.tuple #[v, .int .i64 0, .int .i64 0]) ∧ RdTs w' v (ts.map (Tk.mem l))
    | .bad c r => e = .returned (.tuple #[.slice none 0 0, .int .i64 c, .int .i64 ((l.length - r.length : Nat) : Int)])
set_option maxRecDepth 100000 in
set_option maxHeartbeats 8000000 in
theorem refAll_any (l : List UInt8) (hl : l.length ≤ 1000000) (w : World) :
    Calls Tryz.prog 22 #[.string (str l)] w (RAllP l w) := by
  have HSZ := Lib.hid (size_str l)
  by_cases hbig : 65536 < l.length
  · have hbI : (65536 : Int) < ((str l).size : Int) := by rw [size_str]; omega
    have HM := Lib.hid (show allM l = .bad 2 l by unfold allM; rw [if_pos hbig])
    clear hbig
    go_enter Tryz.func22, Tryz.ntmps22
    go_wp2
    go_ret3
    refine ⟨Below.refl _ _, ?_⟩
    rw [HM.out]
    simp
  have HGO := Lib.hid (show allM l = goM l (l.length + 1) [] l by unfold allM; rw [if_neg hbig])
  have hbI : ((str l).size : Int) ≤ 65536 := by rw [size_str]; omega
  obtain ⟨w1, hw1⟩ : ∃ w1, w1 = w.alloc (.cells #[.string (str l), .int .i64 0, .int .i64 0, .int .i64 0] 84) := ⟨_, rfl⟩
  have HB := Lib.hid (show B2 w w.heap.size l l [] (.slice none 0 0) w1 from ⟨⟨List.suffix_refl _, by rw [hw1, Nat.sub_self]; exact heap_alloc_new w _⟩, by rw [hw1]; exact (Below.refl _ _).alloc (Nat.le_refl _) _, World.ownsRow_nil _ _ _ _, by simp, Nat.le_refl _⟩)
  have HW1 := Lib.hid hw1
  clear hw1 hbig
  go_enter Tryz.func22, Tryz.ntmps22
  go_upto_region 4 with fail
  rw [← HW1.out]
  obtain ⟨X, hX⟩ : ∃ X, X = w.heap.size := ⟨_, rfl⟩
  rw [← hX] at HB
  simp only [← hX]
  clear hX
  go_wp2_with fail
  go_loopw [6] (fun v wr => ∃ ts acc r' f, r'.length < f ∧ goM l f ts r' = allM l ∧ acc.map (·.1) = ts.map (Tk.mem l) ∧ acc.length + r'.length ≤ l.length ∧ B2 w X l r' acc v wr) (fun _ wr => l.length - offR X wr)
  case atStart => exact ⟨[], [], l, l.length + 1, by omega, HGO.out.symm, rfl, by simp, HB.out⟩
  case round =>
    obtain ⟨ts, acc, r', f, hf, hmod, hmap, hlen, hb2⟩ := hrel
    obtain ⟨g, hg⟩ : ∃ g, f = g + 1 := ⟨f - 1, by omega⟩
    subst hg
    have HMOD := Lib.hid hmod
    have HMAP := Lib.hid hmap
    have HLEN := Lib.hid hlen
    have HG := Lib.hid hf
    have HB2 := Lib.hid hb2
    have HLL' := Lib.hid (suf_len hb2.rr.1)
    have HOFF := Lib.hid hb2.rr.off
    obtain ⟨va0, vc0, hv⟩ := RdSl.shape hb2.rd
    rw [List.length_map] at hv
    subst hv
    obtain ⟨c0, c1, c2, c3⟩ := hb2.rr.cells
    clear hf hmod hmap hlen hb2
    cases r' with
    | nil =>
      have hlt : decide (((l.length - ([] : List UInt8).length : Nat) : Int) < ((str l).size : Int)) = false := decide_eq_false (by rw [HSZ.out]; simp)
      have hnI : ¬ (((l.length - ([] : List UInt8).length : Nat) : Int) < ((str l).size : Int)) := by rw [HSZ.out]; simp
      have HFIN := Lib.hid (show allM l = .ok ts [] by rw [← HMOD.out, goM, if_pos rfl])
      generalize l.length - ([] : List UInt8).length = n at c1 hlt hnI
      go_wp2
      go_ret3
      refine ⟨HB2.out.b, ?_⟩
      rw [HFIN.out]
      exact ⟨_, rfl, by rw [← HMAP.out]; exact HB2.out.rd⟩
    | cons c r' =>
      have hlt : ((l.length - (c :: r').length : Nat) : Int) < ((str l).size : Int) := by
        have := HLL'.out
        rw [HSZ.out]; simp only [List.length_cons] at this ⊢; omega
      have HNX := Lib.hid ((next_at X l c r' hl wr HB2.out.rr).mono fun e w' h => nx_two h)
      have HP := Lib.hid (show (pieceM (l.length - (c :: r').length) (c :: r')).bind (fun t r1 => goM l g (ts ++ [t]) r1) = allM l by rw [← HMOD.out, goM, if_neg (by simp)])
      generalize hno : l.length - (c :: r').length = n at c1 hlt HNX HP HOFF
      have HNO := Lib.hid hno
      clear hno
      go_wp2_with fail
      refine HNX.out.mono ?_
      rintro e w5 (⟨e5, r2, k, n5, a5, m5, q5, t5, p0, p1, p2, r5, hM, rfl, hm⟩ | ⟨x, r5, va, hM, rfl, hm, hown⟩)
      · have HFIN := Lib.hid (show allM l = .bad e5 r2 by rw [← HP.out, hM]; rfl)
        have HE5 := Lib.hid (ne_piece _ _ _ _ hM)
        have hgr := hm.2
        have hbm : Below w.heap.size w w5 := HB2.out.b.trans ⟨hgr.os, hgr.tape, hgr.output, hgr.size, fun k hk => hgr.block k (by have := HB2.out.b.size; omega) (by have := HB2.out.n; simp; omega)⟩
        obtain ⟨w6, hw6⟩ : ∃ w6, w6 = w5.alloc (.cells (tkC k n5 (.slice a5 m5 q5) t5 p0 p1 p2) 51) := ⟨_, rfl⟩
        have hb56 : Below w5.heap.size w5 w6 := by rw [hw6]; exact (Below.refl _ _).alloc (Nat.le_refl _) _
        have hr6 := hm.1.below hb56
        have HB6 := Lib.hid (hbm.trans (hb56.mono hbm.size))
        have HW6 := Lib.hid hw6
        clear c0 c1 c2 c3 hM hm hgr hbm hb56 hw6 HNX
        have hne : (e5 != 0) = true := by simpa using HE5.out
        obtain ⟨c0, c1, c2, c3⟩ := hr6.cells
        clear hr6
        go_upto_region 7 with fail
        rw [← HW6.out]
        go_upto_region 8 with fail
        go_quiet (fail)
        go_wp2
        go_ret3
        refine ⟨below_drewN HB6.out _, ?_⟩
        rw [HFIN.out]
        rfl
      · have HNX2 := Lib.hid (show goM l g (ts ++ [x]) r5 = allM l by rw [← HP.out, hM]; rfl)
        have HL5 := Lib.hid (piece_is hM).1.length_le
        have HB5 := Lib.hid (HB2.out.mv hm)
        have HO5 := Lib.hid (own_mono2 hown (show X + 1 ≤ wr.heap.size from HB2.out.rr.lt))
        obtain ⟨ta, tc, hva⟩ := RdSl.shape (RdAs.of_own hown)
        subst hva
        obtain ⟨w6, hw6⟩ : ∃ w6, w6 = w5.alloc (.cells #[.int .i64 x.k, .string (str x.n), .slice ta x.ats.length tc, .string (str x.t), .int .i64 (x.o : Int), .int .i64 (lineS (l.take x.o)), .int .i64 (colS (l.take x.o))] 51) := ⟨_, rfl⟩
        have hb56 : Below w5.heap.size w5 w6 := by rw [hw6]; exact (Below.refl _ _).alloc (Nat.le_refl _) _
        have hrow6 : w6.heap[w5.heap.size]? = some (.cells #[.int .i64 x.k, .string (str x.n), .slice ta x.ats.length tc, .string (str x.t), .int .i64 (x.o : Int), .int .i64 (lineS (l.take x.o)), .int .i64 (colS (l.take x.o))] 51 (0, 0)) := by rw [hw6]; exact heap_alloc_new w5 _
        have HB6 := Lib.hid (HB5.out.below hb56)
        have HO6 := Lib.hid (own_belowG HO5.out hb56)
        have HW6 := Lib.hid hw6
        clear c0 c1 c2 c3 hM hm hown hb56 hw6 HNX hlt
        obtain ⟨c0, c1, c2, c3⟩ := HB6.out.rr.cells
        have HROW := Lib.hid hrow6
        clear hrow6
        simp only [tmL, Tk.mem]
        go_upto_region 7 with fail
        rw [← HW6.out]
        generalize w5.heap.size = TB at HROW ⊢
        generalize hpl : lineS (l.take x.o) = pl at HROW ⊢
        generalize hpc : colS (l.take x.o) = pc at HROW ⊢
        have HPL := Lib.hid hpl
        have HPC := Lib.hid hpc
        clear hpl hpc
        have z0 : w6.cell? ⟨TB, 0, none⟩ = some (.int .i64 x.k) := by rw [cell_of_row w6 _ 0 _ _ (0, 0) HROW.out]; rfl
        have z1 : w6.cell? ⟨TB, 1, none⟩ = some (.string (str x.n)) := by rw [cell_of_row w6 _ 1 _ _ (0, 0) HROW.out]; rfl
        have z2 : w6.cell? ⟨TB, 2, none⟩ = some (.slice ta x.ats.length tc) := by rw [cell_of_row w6 _ 2 _ _ (0, 0) HROW.out]; rfl
        have z3 : w6.cell? ⟨TB, 3, none⟩ = some (.string (str x.t)) := by rw [cell_of_row w6 _ 3 _ _ (0, 0) HROW.out]; rfl
        have z4 : w6.cell? ⟨TB, 4, none⟩ = some (.int .i64 (x.o : Int)) := by rw [cell_of_row w6 _ 4 _ _ (0, 0) HROW.out]; rfl
        have z5 : w6.cell? ⟨TB, 5, none⟩ = some (.int .i64 pl) := by rw [cell_of_row w6 _ 5 _ _ (0, 0) HROW.out]; rfl
        have z6 : w6.cell? ⟨TB, 6, none⟩ = some (.int .i64 pc) := by rw [cell_of_row w6 _ 6 _ _ (0, 0) HROW.out]; rfl
        have hown6 := HB6.out.o
        have h100 : acc.length ≤ 10000000 := by
          have h1 := HLEN.out
          omega
        have hbase : X + 1 ≤ w6.heap.size := HB6.out.rr.lt
        go_wp2_with (first
          | (refine appT2 ⟨x.k, x.n, x.ats, x.t, (x.o : Int), pl, pc⟩ (.slice ta x.ats.length tc) rfl rfl _ _ rfl (X + 1) acc.length _ _ rfl hown6 rfl h100 hbase ?_; intro v' w7 ho7 hg7))
        have HB7 := Lib.hid (HB6.out.push (x := x.mem l) HO6.out (by simp only [Tk.mem, HPL.out, HPC.out]; exact ho7) hg7)
        have HLEN2 := Lib.hid (show r5.length < g ∧ (acc ++ [(x.mem l, (.slice ta x.ats.length tc : Value))]).length + r5.length ≤ l.length ∧ r5.length < (c :: r').length by
          have h1 := HLEN.out
          have h2 := HG.out
          have h3 := HL5.out
          simp only [List.length_append, List.length_cons, List.length_nil] at h1 h2 h3 ⊢
          omega)
        clear hown6 h100 hbase ho7 hg7
        go_wp2
        go_roundw
        case rel => exact ⟨ts ++ [x], acc ++ [(x.mem l, .slice ta x.ats.length tc)], r5, g, HLEN2.out.1, HNX2.out, by rw [List.map_append, List.map_append, HMAP.out]; rfl, HLEN2.out.2.1, HB7.out⟩
        case measure =>
          rw [HOFF.out, HB7.out.rr.off, ← HNO.out]
          have h1 := HLEN2.out.2.2
          have h2 := HLL'.out
          have h3 := suf_len HB7.out.rr.1
          omega
end
end Go.Proofs.YtpbkidmdfibaoaaGreatDoor
