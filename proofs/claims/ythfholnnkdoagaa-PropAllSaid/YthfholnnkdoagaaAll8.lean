/-
  Layer 8: All. Own work.
-/
import Derived.Test.YthfholnnkdoagaaBth8
namespace Go.Proofs.Ythfholnnkdoagaa
set_option linter.unusedVariables false
set_option linter.unusedSimpArgs false
open Go.RowKit

/-- what all of a table come to -/
inductive Xa where
  | ok (l : List Pp) (D : List Pp) : Xa
  | bad (e : Int) (n : List UInt8) (D : List Pp) : Xa
def allGo (U : List Pp) : List Pp → List Pp → List Pp → Xa
  | [], acc, D => .ok acc D
  | p :: r, acc, D => match valueM8 U 33 [] p.1 D with
    | .ok v D' => allGo U r (acc ++ [(p.1, v)]) D'
    | .bad e n D' => .bad e n D'
theorem allGo_ok {U r acc D : List Pp} {p : Pp} {v : List UInt8} {D' : List Pp} (h : valueM8 U 33 [] p.1 D = .ok v D') : allGo U (p :: r) acc D = allGo U r (acc ++ [(p.1, v)]) D' := by
  rw [allGo, h]
theorem allGo_bad {U r acc D : List Pp} {p : Pp} {e : Int} {n : List UInt8} {D' : List Pp} (h : valueM8 U 33 [] p.1 D = .bad e n D') : allGo U (p :: r) acc D = .bad e n D' := by
  rw [allGo, h]
def AllP8 (S : Tb) (X : Nat → Prop) (x : Xa) (w : World) (e : Ending) (w' : World) : Prop :=
  Kp S X w w' ∧ match x with
  | .ok l _ => ∃ v, e = .returned (.tuple #[v, .int .i64 0, .string ⟨#[]⟩]) ∧ w'.ownsRow w.heap.size 33 2 v (prs l).length (rowPr (prs l))
  | .bad er n _ => e = .returned (.tuple #[.slice none 0 0, .int .i64 er, .string (str n)])
/-- on the way through the properties -/
structure A8 (S : Tb) (U : List Pp) (X : Nat → Prop) (w : World) (L E N : Nat) (acc D : List Pp) (v : Value) (w' : World) : Prop where
  res : Res8 27 w' L E N v (.int .i64 0) (.string ⟨#[]⟩)
  row : w'.ownsRow w.heap.size 33 2 v acc.length (rowPr (prs acc))
  st : St S U D (fun k => X k ∨ k = L ∨ k = E ∨ k = N) w'
  kp : Kp S X w w'
  q : Q8 U [] D
  n : (w.heap.size ≤ L ∧ w.heap.size ≤ E ∧ w.heap.size ≤ N) ∧ L ≠ E ∧ L ≠ N ∧ E ≠ N ∧ S.B ≤ w.heap.size ∧ ∀ k, S.vp.ownBlock = some k → k < w.heap.size
section
variable {S : Tb} {U : List Pp} {X : Nat → Prop} {w w' w'' w6 : World} {L E N : Nat} {acc D : List Pp} {v v' : Value}
theorem Res8.far {t : TypeId} {x y z : Value} (h : Res8 t w L E N x y z) (hb : Below w.heap.size w w') : Res8 t w' L E N x y z :=
  ⟨(hb.block L (Array.getElem?_eq_some_iff.1 h.l).1).trans h.l, (hb.block E (Array.getElem?_eq_some_iff.1 h.e).1).trans h.e, (hb.block N (Array.getElem?_eq_some_iff.1 h.n).1).trans h.n⟩
theorem A8.far (h : A8 S U X w L E N acc D v w') (hb : Below w'.heap.size w' w'') : A8 S U X w L E N acc D v w'' :=
  ⟨h.res.far hb, own_mvd8 h.row hb, h.st.below hb, h.kp.trans (Kp.of_below hb), h.q, h.n⟩
theorem A8.turned (h : A8 S U X w L E N acc D v w') {x : Xp} {e : Ending} (hv : ValP S U (fun k => X k ∨ k = L ∨ k = E ∨ k = N) [] (.slice none 0 0) x w' e w'') (hq : Q8 U [] x.D) : A8 S U X w L E N acc x.D v w'' :=
  ⟨h.res.kp hv.2.2.1 (.inr (.inl rfl)) (.inr (.inr (.inl rfl))) (.inr (.inr (.inr rfl))), own_frame h.row fun k cs _ hc => hv.2.2.1.ty _ _ _ _ hc (by decide) (by decide) (by decide), hv.1, h.kp.trans (hv.2.2.1.mono fun k hk => .inl hk), hq, h.n⟩
theorem A8.push (h : A8 S U X w L E N acc D v w') (p : Pp) (ho : w6.ownsRow w.heap.size 33 2 v' (acc.length + 1) (rowPr (prs acc) ++ prL ⟨str p.1, str p.2⟩)) (hg : w'.grownBy w6 v.ownBlock) (hX : ∀ k, X k → k < w.heap.size) :
    A8 S U X w L E N (acc ++ [p]) D v' (w6.setCell ⟨L, 0, none⟩ v') := by
  have hn := h.n
  have hlt : ∀ {k : Nat} {o : Obj}, w'.heap[k]? = some o → k < w'.heap.size := fun h => (Array.getElem?_eq_some_iff.1 h).1
  have hty : ∀ {k : Nat}, v.ownBlock = some k → ∃ cs, w'.heap[k]? = some (Obj.cells cs 33 (0, 0)) ∧ w.heap.size ≤ k := fun {k} hk => own_ty h.row hk
  have h6 : ∀ {k : Nat} {o : Obj}, w'.heap[k]? = some o → (∀ cs, o ≠ .cells cs 33 (0, 0)) → w6.heap[k]? = some o := fun {k o} hk hne => (hg.block k (hlt hk) (fun e => by
    obtain ⟨cs, h1, _⟩ := hty e.symm
    rw [h1] at hk; cases hk; exact hne _ rfl)).trans hk
  have hL6 := h6 h.res.l (by intro _ e; cases e)
  have h8 : ∀ k, k ≠ L → (w6.setCell ⟨L, 0, none⟩ v').heap[k]? = w6.heap[k]? := fun k hk => heap_setCell_other w6 ⟨L, 0, none⟩ k v' hk
  have hsz : (w6.setCell ⟨L, 0, none⟩ v').heap.size = w6.heap.size := by simp
  have hpx : rowPr (prs [p]) = prL ⟨str p.1, str p.2⟩ := by simp [rowPr, prs]
  obtain ⟨vv, hv, hX8⟩ := h.st
  have hl8 := hX8 L (.inr (.inl rfl))
  have hh : ∀ {k : Nat} {o : Obj}, w'.heap[k]? = some o → v.ownBlock ≠ some k → k ≠ L → (w6.setCell ⟨L, 0, none⟩ v').heap[k]? = some o := fun {k o} hk h1 h2 => (h8 k h2).trans ((hg.block k (hlt hk) (fun e => h1 e.symm)).trans hk)
  have hnty : ∀ {k : Nat} {o : Obj}, w'.heap[k]? = some o → (∀ cs, o ≠ .cells cs 33 (0, 0)) → v.ownBlock ≠ some k := fun {k o} hk hne e => by
    obtain ⟨cs, h1, _⟩ := hty e
    rw [h1] at hk; cases hk; exact hne _ rfl
  obtain ⟨esN, cN, hN⟩ := hv.number.mapped
  obtain ⟨esD, cD, hD⟩ := hv.done.mapped
  refine ⟨⟨heap_setCell_same w6 L 0 _ _ v' hL6, (h8 E (Ne.symm hn.2.1)).trans (h6 h.res.e (by intro _ e; cases e)), (h8 N (Ne.symm hn.2.2.1)).trans (h6 h.res.n (by intro _ e; cases e))⟩, ?_, ?_, ?_, h.q, h.n⟩
  · rw [List.length_append, List.length_singleton, prs_app, rowPr_app, hpx]
    exact own_frame ho fun k cs _ hc => (h8 k (fun e => by rw [e, hL6] at hc; cases hc)).trans hc
  · refine ⟨vv, ⟨hh hv.tab (hnty hv.tab (by intro _ e; cases e)) (Ne.symm hl8.2.1), own_frame hv.props fun k cs hk hc => hh hc (fun e => ?_) (fun e => ?_), places_frame hv.number ((hh hN (hnty hN (by intro _ e; cases e)) (fun e => ?_)).trans hN.symm), placesI_frame hv.done ((hh hD (hnty hD (by intro _ e; cases e)) (fun e => ?_)).trans hD.symm),
      own_frame hv.vals fun k cs hk hc => hh hc (hnty hc (by intro _ e; cases e)) (fun e => hl8.2.2.2 (by rw [← e]; exact hk)), hv.ne, hv.low, ?_, hv.mxB⟩, fun k hk => ⟨?_, (hX8 k hk).2⟩⟩
    · obtain ⟨_, _, h2⟩ := hty e
      have := hn.2.2.2.2.2 k hk
      omega
    · have := hn.2.2.2.2.2 k hk
      have := hn.1.1
      omega
    · rw [e, h.res.l] at hN; cases hN
    · rw [e, h.res.l] at hD; cases hD
    · have hm := hv.mx
      have hmB := hv.mxB
      have h1 : (w6.setCell ⟨L, 0, none⟩ v').heap[0]? = w'.heap[0]? := (h8 _ (by have := hn.1.1; have := hn.2.2.2.2.1; omega)).trans (hg.block _ (World.block_lt_of_cell? w' _ hm) (fun e => by
        obtain ⟨_, _, h2⟩ := hty e.symm
        have := hn.2.2.2.2.1
        omega))
      unfold World.cell? at hm ⊢
      rw [h1]; exact hm
    · rw [hsz]; exact Nat.lt_of_lt_of_le (hX8 k hk).1 hg.size
  · exact h.kp.below (((Below.refl _ _).grown hg h.kp.size (fun k hk => by obtain ⟨_, _, h2⟩ := hty hk; exact h2)).setCell hn.1.1 _)
end
/-- a panic, and what its frame is then, whatever else it holds -/
def PnB (c0 : List PanicEntry) (ds : List Deferred) (pl pe pn : Value) (R : World → Prop) : Exit → Act → World → Prop
  | .panic c, a, w => c = c0 ∧ a.defers = ds ∧ a.tmps.getD 2 undef = pl ∧ a.tmps.getD 3 undef = pe ∧ a.tmps.getD 4 undef = pn ∧ R w
  | _, _, _ => False
theorem PnB.put {c0 c : List PanicEntry} {ds : List Deferred} {pl pe pn : Value} {R : World → Prop} {a : Act} {d : Nat} {v : Value} {w : World} (h : PnB c0 ds pl pe pn R (.panic c) (a.put (some d) v) w) (hd : 4 < d) : PnB c0 ds pl pe pn R (.panic c) a w := by
  obtain ⟨h1, h2, h3, h4, h5, h6⟩ := h
  have e : ∀ k, k ≤ 4 → (a.put (some d) v).tmps.getD k undef = a.tmps.getD k undef := fun k hk => by
    simp only [Act.put, Array.getD_eq_getD_getElem?]
    rw [Array.getElem?_setIfInBounds_ne (by omega)]
  exact ⟨h1, h2, (e 2 (by omega)).symm.trans h3, (e 3 (by omega)).symm.trans h4, (e 4 (by omega)).symm.trans h5, h6⟩
theorem kept_ty {w w' : World} {T base n : Nat} {t : TypeId} {cs : Array Value} {v : Value} {xs : List Value} (h : w.heap[T]? = some (Obj.cells cs t (0, 0))) (ht : t ≠ 33) (ho : w.ownsRow base 33 2 v n xs) (hg : w.grownBy w' v.ownBlock) : w'.heap[T]? = some (Obj.cells cs t (0, 0)) :=
  (hg.block T (Array.getElem?_eq_some_iff.1 h).1 (fun he => by
    obtain ⟨c2, h1, _⟩ := own_ty ho he.symm
    rw [h] at h1
    simp only [Option.some.injEq, Obj.cells.injEq] at h1
    exact ht h1.2.1)).trans h
set_option maxRecDepth 100000 in
set_option maxHeartbeats 8000000 in
theorem All8_any (S : Tb) (U : List Pp) (hU : UOk U) (X : Nat → Prop) (D : List Pp) (w : World) (hq : Q8 U [] D) (hst : St S U D X w) :
    Calls Try.prog 26 #[.pointer (some ⟨S.T, 0, none⟩)] w (AllP8 S X (allGo U U [] D) w) := by
  have hmf : ∀ (fn : Fn) (first cap : Array Value) (w : World), (Instr.makeFunc fn first cap).run Try.prog w = .ok (.func fn first cap) w := fun _ _ _ _ => rfl
  have hbs := own8_base hst
  have hXl : ∀ k, X k → k < w.heap.size := fun k hk => by obtain ⟨vv, _, h2⟩ := hst; exact (h2 k hk).1
  have hvpl : ∀ k, S.vp.ownBlock = some k → k < w.heap.size := fun k hk => by
    obtain ⟨vv, h1, _⟩ := hst
    obtain ⟨cs, q1, _⟩ := own_ty h1.props hk
    exact (Array.getElem?_eq_some_iff.1 q1).1
  obtain ⟨w1, hw1⟩ : ∃ w1, w1 = ((w.alloc (.cells #[.slice none 0 0] 27)).alloc (.cells #[.int .i64 0] 42)).alloc (.cells #[.string ⟨#[]⟩] 9) := ⟨_, rfl⟩
  have hz1 : w1.heap.size = w.heap.size + 3 := by rw [hw1]; simp
  have hb1 : Below w.heap.size w w1 := by rw [hw1]; exact (((Below.refl w.heap.size w).alloc (Nat.le_refl _) _).alloc (by simp) _).alloc (by simp; omega) _
  have hres1 : Res8 27 w1 w.heap.size (w.heap.size + 1) (w.heap.size + 1 + 1) (.slice none 0 0) (.int .i64 0) (.string ⟨#[]⟩) := by
    rw [hw1]
    refine ⟨?_, ?_, ?_⟩
    · rw [Below.heap_alloc _ _ _ (by simp; omega), Below.heap_alloc _ _ _ (by simp)]; exact heap_alloc_new w _
    · rw [Below.heap_alloc _ _ _ (by simp)]; exact heap_alloc2_new w _ _
    · have := heap_alloc2_new (w.alloc (.cells #[.slice none 0 0] 27)) (.cells #[.int .i64 0] 42) (.cells #[.string ⟨#[]⟩] 9)
      simpa using this
  have HW1 := Lib.hid hw1
  have HST := Lib.hid hst
  have HQ := Lib.hid hq
  have HXL := Lib.hid hXl
  have HVPL := Lib.hid hvpl
  generalize hX : allGo U U [] D = RES
  have HX := Lib.hid hX
  clear hw1 hst hq hX hXl hvpl
  go_enter_defers Try.func26, Try.ntmps26
  go_upto_region 2 with fail
  rw [← HW1.out]
  obtain ⟨N, hN⟩ : ∃ N, N = w.heap.size + 1 + 1 := ⟨_, rfl⟩
  obtain ⟨E, hE⟩ : ∃ E, E = w.heap.size + 1 := ⟨_, rfl⟩
  obtain ⟨L, hL⟩ : ∃ L, L = w.heap.size := ⟨_, rfl⟩
  rw [← hN, ← hE, ← hL] at hres1
  rw [← hN, ← hE]
  have hNN : (w.heap.size ≤ L ∧ w.heap.size ≤ E ∧ w.heap.size ≤ N) ∧ (L < w1.heap.size ∧ E < w1.heap.size ∧ N < w1.heap.size) ∧ L ≠ E ∧ L ≠ N ∧ E ≠ N := by omega
  have HN := Lib.hid hNN
  have HL := Lib.hid hL
  simp only [← HL.out]
  have HA1 := Lib.hid (show A8 S U X w L E N [] D (.slice none 0 0) w1 from ⟨hres1, World.ownsRow_nil _ _ _ _, HST.out.joinZ hb1 fun k hk => by
    rcases hk with hk | hk
    · exact .inl hk
    · right; omega, Kp.of_below hb1, HQ.out, hNN.1, hNN.2.2.1, hNN.2.2.2.1, hNN.2.2.2.2, hbs, HVPL.out⟩)
  clear hres1 hNN hN hE hL hz1 hb1
  have hbp : ∀ w, (binOp BinOp.eql 39 (.pointer (some ⟨S.T, 0, none⟩)) (.pointer none)).run Try.prog w = .ok (.bool false) w := fun _ => by first | rfl | kernel_rfl
  obtain ⟨vv, hv, _⟩ := HA1.out.st
  have hprops := RdPs.of_own hv.props
  obtain ⟨aP, capP, hvp⟩ := RdSl.shape hprops
  have hpl : (prs U).length = U.length := prs_len U
  rw [hpl] at hvp
  have HVP := Lib.hid hvp
  have c0 : w1.cell? ⟨S.T, 0, none⟩ = some (.slice aP U.length capP) := by rw [cell_of_row _ _ 0 _ _ (0, 0) hv.tab, ← hvp]; rfl
  have hUl : (U.length : Int) ≤ 1000 := by have := hU.len; omega
  clear hv hprops hvp hpl
  go_upto_region 5 with fail
  go_loopw [15] (fun i wr => ∃ (k : Nat) (acc D2 : List Pp) (v : Value), k ≤ U.length ∧ i = .int .i64 k ∧ RES = allGo U (U.drop k) acc D2 ∧ acc.length ≤ k ∧ A8 S U X w L E N acc D2 v wr) (fun i _ => U.length - (intOf i).toNat)
  case atStart => exact ⟨0, [], D, _, by omega, rfl, HX.out.symm, by simp, HA1.out⟩
  case round =>
    obtain ⟨k, acc, D2, v, hk, rfl, hres, hac, ha⟩ := hrel
    have HR := Lib.hid hres
    have HA := Lib.hid ha
    clear hres ha HA1 c0
    obtain ⟨av, cv, hv⟩ := own_shape8 HA.out.row
    subst hv
    by_cases hlt : k < U.length
    · obtain ⟨p, hp⟩ : ∃ p, U[k]? = some p := ⟨_, List.getElem?_eq_getElem hlt⟩
      have hdr : U.drop k = p :: U.drop (k + 1) := by
        obtain ⟨h1, h2⟩ := List.getElem?_eq_some_iff.1 hp
        rw [List.drop_eq_getElem_cons h1, h2]
      obtain ⟨vv, hvt, _⟩ := HA.out.st
      have hprops := RdPs.of_own hvt.props
      rw [HVP.out] at hprops
      obtain ⟨a1, e1, p0, p1⟩ := RdSl.elem hprops (prs_at hp)
      subst e1
      dsimp only at p0 p1
      have HP := Lib.hid hp
      have hkI : (k : Int) < (U.length : Int) := by omega
      have hkI2 : (k : Int) ≤ 1000 := by omega
      have hbb : Below wr.heap.size wr (wr.alloc (.cells #[.string (str p.1), .string (str p.2)] 33)) := (Below.refl _ _).alloc (Nat.le_refl _) _
      have hnew := heap_alloc_new wr (.cells #[.string (str p.1), .string (str p.2)] 33)
      have HA2 := Lib.hid (HA.out.far hbb)
      clear hp hvt hprops hbb HA
      go_upto_region 7 with fail
      generalize wr.alloc (.cells #[.string (str p.1), .string (str p.2)] 33) = w2 at hnew HA2 ⊢
      generalize wr.heap.size = P0 at hnew ⊢
      have r0 : w2.cell? ⟨P0, 0, none⟩ = some (.string (str p.1)) := by rw [cell_of_row w2 P0 0 _ _ (0, 0) hnew]; rfl
      have t0 : w2.cell? ⟨L, 0, none⟩ = some (.slice av acc.length cv) := by rw [cell_of_row _ _ 0 _ _ (0, 0) HA2.out.res.l]; rfl
      have HNW := Lib.hid hnew
      have HV := Lib.hid (value8_any S U hU 33 [] [] (.slice none 0 0) (WayOk.nil U) rfl (by omega) (fun k => X k ∨ k = L ∨ k = E ∨ k = N) D2 w2.drew k p HP.out HA2.out.q (HA2.out.far (Below.refl _ _).drew).st ⟨World.ownsRow_nil _ _ _ _, by simp [Value.ownBlock]⟩)
      have HQV := Lib.hid (value_q U 33 [] p.1 D2 (by rw [get_at hU HP.out]; rfl) HA2.out.q)
      have HRO := Lib.hid (fun (v : List UInt8) (D3 : List Pp) (h : valueM8 U 33 [] p.1 D2 = .ok v D3) => show RES = allGo U (U.drop (k + 1)) (acc ++ [(p.1, v)]) D3 from by rw [HR.out, hdr]; exact allGo_ok h)
      have HRB := Lib.hid (fun (e : Int) (n : List UInt8) (D3 : List Pp) (h : valueM8 U 33 [] p.1 D2 = .bad e n D3) => show RES = .bad e n D3 from by rw [HR.out, hdr]; exact allGo_bad h)
      generalize valueM8 U 33 [] p.1 D2 = xv at HV HQV HRO HRB
      clear p0 p1 hnew hdr HR
      have hcl : acc.length ≤ 1000 := by omega
      cases xv with
      | bad er n D3 =>
        have HV2 := Lib.hid (HV.out.mono (R' := fun e w' => e = bad8 er n ∧ A8 S U X w L E N acc D3 (.slice av acc.length cv) w') fun e w' h => ⟨h.2.2.2, (HA2.out.far (Below.refl _ _).drew).turned h HQV.out⟩)
        have HRES := Lib.hid (HRB.out er n D3 rfl)
        clear HV HQV HRO HRB
        refine Code.wp_mono (Q := PnB [{ v := .iface 77 (.agg #[.int .i64 er, .string (str n)]), recovered := false }] [{ target := .fn (.func 39) #[.pointer (some ⟨L, 0, none⟩), .pointer (some ⟨E, 0, none⟩), .pointer (some ⟨N, 0, none⟩)], args := #[] }] (.pointer (some ⟨L, 0, none⟩)) (.pointer (some ⟨E, 0, none⟩)) (.pointer (some ⟨N, 0, none⟩)) (fun w' => A8 S U X w L E N acc D3 (.slice av acc.length cv) w')) (fun e a w5 h => ?_) ?_
        · cases e with
          | panic c =>
            obtain ⟨rfl, hd, h2, h3, h4, ha⟩ := h
            have HA5 := Lib.hid ha
            show Leaves Try.prog Try.f26 a.tmps (AllP8 S X RES w) a.defers (.panicking _) w5
            rw [hd]
            refine leaves_cons (f := 39) (args := #[.pointer (some ⟨L, 0, none⟩), .pointer (some ⟨E, 0, none⟩), .pointer (some ⟨N, 0, none⟩)]) (by simp) (by simp [go_sem]) ?_
            refine (bad_all L E N HA5.out.n.2.1 HA5.out.n.2.2.1 HA5.out.n.2.2.2.1 _ _ _ HA5.out.res).mono ?_
            rintro e u' w9 ⟨rfl, rfl, hres9, hfr, k1, k2, k3, k4⟩
            exact ⟨_, results_all _ _ L E N _ _ _ h2 h3 h4 hres9, by rw [HRES.out]; exact ⟨HA5.out.kp.res HA5.out.n.1.1 HA5.out.n.1.2.1 HA5.out.n.1.2.2 hfr k1 k2 k3 k4, rfl⟩⟩
          | _ => exact h.elim
        · skip
          refine wp_region_held_drew (S := (fun w' => w'.cell? ⟨L, 0, none⟩ = some (.slice av acc.length cv) ∧ w'.cell? ⟨P0, 0, none⟩ = some (.string (str p.1)))) (by kernel_rfl) (by (try dsimp only); exact ⟨t0, r0⟩) (fun hHeld => ?_)
          refine wpAnyH_take (i := 0) (v := ?_) (by (simp only [List.getElem?_toArray, List.getElem?_cons_succ, List.getElem?_cons_zero]; rfl)) (by kernel_rfl) (by kernel_rfl) (by kernel_rfl) (by intro _ _ _ h; exact PnB.put h (by decide)) (Or.inl ⟨by rfl, ?_⟩) (by assumption) ?_
          rotate_left
          · (intro w hSw; (try dsimp only at hSw); obtain ⟨q0, q1⟩ := hSw; go_simp; try (with_reducible rfl))
          simp only [Act.put, List.setIfInBounds_toArray, List.set_cons_zero, List.set_cons_succ]
          refine wpAnyH_take (i := 1) (v := ?_) (by (simp only [List.getElem?_toArray, List.getElem?_cons_succ, List.getElem?_cons_zero]; rfl)) (by kernel_rfl) (by kernel_rfl) (by kernel_rfl) (by intro _ _ _ h; exact PnB.put h (by decide)) (Or.inl ⟨by rfl, ?_⟩) (by assumption) ?_
          rotate_left
          · (intro w hSw; (try dsimp only at hSw); go_simp; try (with_reducible rfl))
          simp only [Act.put, List.setIfInBounds_toArray, List.set_cons_zero, List.set_cons_succ]
          refine wpAnyH_take (i := 2) (v := ?_) (by (simp only [List.getElem?_toArray, List.getElem?_cons_succ, List.getElem?_cons_zero]; rfl)) (by kernel_rfl) (by kernel_rfl) (by kernel_rfl) (by intro _ _ _ h; exact PnB.put h (by decide)) (Or.inl ⟨by rfl, ?_⟩) (by assumption) ?_
          rotate_left
          · (intro w hSw; (try dsimp only at hSw); obtain ⟨q0, q1⟩ := hSw; go_simp; try (with_reducible rfl))
          simp only [Act.put, List.setIfInBounds_toArray, List.set_cons_zero, List.set_cons_succ]
          refine wpAnyH_take (i := 3) (v := ?_) (by (simp only [List.getElem?_toArray, List.getElem?_cons_succ, List.getElem?_cons_zero]; rfl)) (by kernel_rfl) (by kernel_rfl) (by kernel_rfl) (by intro _ _ _ h; exact PnB.put h (by decide)) (Or.inl ⟨by rfl, ?_⟩) (by assumption) ?_
          rotate_left
          · (intro w hSw; (try dsimp only at hSw); go_simp; try (with_reducible rfl))
          simp only [Act.put, List.setIfInBounds_toArray, List.set_cons_zero, List.set_cons_succ]
          refine wpAnyH_take (i := 4) (v := ?_) (by (simp only [List.getElem?_toArray, List.getElem?_cons_succ, List.getElem?_cons_zero]; rfl)) (by kernel_rfl) (by kernel_rfl) (by kernel_rfl) (by intro _ _ _ h; exact PnB.put h (by decide)) (Or.inl ⟨by rfl, ?_⟩) (by assumption) ?_
          rotate_left
          · (intro w hSw; (try dsimp only at hSw); go_simp; try (with_reducible rfl))
          simp only [Act.put, List.setIfInBounds_toArray, List.set_cons_zero, List.set_cons_succ]
          refine wpAnyH_ready (rs := [5]) (by kernel_rfl) (by simp) ?_
          refine AllReadyH.cons (by (simp only [List.getElem?_toArray, List.getElem?_cons_succ, List.getElem?_cons_zero]; rfl)) (fun K hK => ?_) AllReadyH.nil
          go_simp
          refine HV2.out.mono ?_
          rintro e w5 ⟨rfl, ha5⟩
          exact ⟨rfl, rfl, rfl, rfl, rfl, ha5⟩
      | ok v D3 =>
        have HV2 := Lib.hid (HV.out.mono (R' := fun e w' => e = .returned (.string (str v)) ∧ A8 S U X w L E N acc D3 (.slice av acc.length cv) w' ∧ w'.heap[P0]? = some (.cells #[.string (str p.1), .string (str p.2)] 33 (0, 0))) fun e w' h => ⟨h.2.2.2, (HA2.out.far (Below.refl _ _).drew).turned h HQV.out, h.2.2.1.ty P0 _ _ _ (show w2.drew.heap[P0]? = _ from HNW.out) (by decide) (by decide) (by decide)⟩)
        have HRES := Lib.hid (HRO.out v D3 rfl)
        clear HV HQV HRO HRB
        refine wp_region_noPanic ?_
        go_region_law (first
          | (go_simp; go_at_call 40; refine HV2.out.mono ?_; rintro e w5 ⟨rfl, ha5, hp5⟩; have HA5 := Lib.hid ha5; have HP5 := Lib.hid hp5; have y0 : w5.cell? ⟨L, 0, none⟩ = some (.slice av acc.length cv) := (by rw [cell_of_row _ _ 0 _ _ (0, 0) ha5.res.l]; rfl); have y1 : w5.cell? ⟨P0, 0, none⟩ = some (.string (str p.1)) := (by rw [cell_of_row w5 P0 0 _ _ (0, 0) hp5]; rfl); have y0a : (w5.alloc (.cells #[.string (str p.1), .string (str v)] 33)).cell? ⟨L, 0, none⟩ = some (.slice av acc.length cv) := (Below.cell ((Below.refl w5.heap.size w5).alloc (Nat.le_refl _) _) (World.block_lt_of_cell? w5 _ y0)).trans y0; clear ha5 hp5)
          | (refine step_prop (w2 := w5) (.tmp 20) (.tmp 27) rfl rfl ⟨str p.1, str v⟩ w5.heap.size (by simp [Act.eval, Act.put]) (by simp [Act.eval, Act.put]) (by repeat (first | exact Below.refl _ _ | refine Below.drew ?_ | refine Below.alloc ?_ (by simp) _)) HA5.out.row (heap_alloc_new _ _) (by omega) HA5.out.kp.size ?_; intro g6 q6 w6 ho6 hg6; have HG6 := Lib.hid hg6; have HO6 := Lib.hid ho6; have hn6 := kept_ty HA5.out.res.l (by decide) HA5.out.row hg6; have f0 : w6.frozen? ⟨L, 0, none⟩ = false := frozen_of_row w6 L 0 _ _ hn6; have d0 : w6.cell? ⟨L, 0, none⟩ = some (.slice av acc.length cv) := (by rw [cell_of_row w6 L 0 _ _ (0, 0) hn6]; rfl); clear hn6 ho6 hg6))
        all_goals
          have HFIN := Lib.hid (A8.push HA5.out (p.1, v) HO6.out HG6.out HXL.out)
          clear t0 r0 y0 y1 y0a f0 d0 HV2
          refine NoPanic.normal ?_
          go_wp2_with fail
          go_roundw
          case rel => exact ⟨k + 1, _, D3, _, by omega, by go_num, HRES.out, by rw [List.length_append, List.length_singleton]; omega, HFIN.out⟩
          case measure => simp [intOf]; omega
    · have hle : (U.length : Int) ≤ k := by omega
      have hkl : U.drop k = [] := List.drop_eq_nil_of_le (by omega)
      have HRES := Lib.hid (show RES = .ok acc D2 from by rw [HR.out, hkl]; rfl)
      have hres := HA.out.res
      have c0 : wr.cell? ⟨L, 0, none⟩ = some (.slice av acc.length cv) := by rw [cell_of_row wr L 0 _ _ (0, 0) hres.l]; rfl
      have c1 : wr.cell? ⟨E, 0, none⟩ = some (.int .i64 0) := by rw [cell_of_row wr E 0 _ _ (0, 0) hres.e]; rfl
      have c2 : wr.cell? ⟨N, 0, none⟩ = some (.string ⟨#[]⟩) := by rw [cell_of_row wr N 0 _ _ (0, 0) hres.n]; rfl
      have f0 : wr.frozen? ⟨L, 0, none⟩ = false := frozen_of_row wr _ 0 _ _ hres.l
      have f1 : wr.frozen? ⟨E, 0, none⟩ = false := frozen_of_row wr _ 0 _ _ hres.e
      have f2 : wr.frozen? ⟨N, 0, none⟩ = false := frozen_of_row wr _ 0 _ _ hres.n
      have n1 : ¬ L = E := HA.out.n.2.1
      have n2 : ¬ L = N := HA.out.n.2.2.1
      have n3 : ¬ E = N := HA.out.n.2.2.2.1
      have n4 : ¬ E = L := fun e => HA.out.n.2.1 e.symm
      have n5 : ¬ N = L := fun e => HA.out.n.2.2.1 e.symm
      have n6 : ¬ N = E := fun e => HA.out.n.2.2.2.1 e.symm
      clear hres hkl HR
      go_wp2_with fail
      obtain ⟨w9, hw9⟩ : ∃ w9, w9 = ((wr.setCell ⟨L, 0, none⟩ (.slice av acc.length cv)).setCell ⟨E, 0, none⟩ (.int .i64 0)).setCell ⟨N, 0, none⟩ (.string ⟨#[]⟩) := ⟨_, rfl⟩
      obtain ⟨u1, u2⟩ := res_put8 HA.out.res HA.out.n.2.1 HA.out.n.2.2.1 HA.out.n.2.2.2.1 _ _ _ w9 hw9
      rw [← hw9]
      refine leaves_cons (f := 39) (args := #[.pointer (some ⟨L, 0, none⟩), .pointer (some ⟨E, 0, none⟩), .pointer (some ⟨N, 0, none⟩)]) (by simp) (by simp [go_sem]) ?_
      refine (idle_all L E N _).mono ?_
      rintro e u' wz ⟨rfl, rfl, rfl⟩
      have h4 : wr.heap.size ≤ wz.heap.size := by rw [hw9]; simp
      refine ⟨_, results_all _ _ L E N _ _ _ rfl rfl rfl u1, by
        rw [HRES.out]
        refine ⟨HA.out.kp.res HA.out.n.1.1 HA.out.n.1.2.1 HA.out.n.1.2.2 (fun k _ => u2 k) (by rw [hw9]; rfl) (by rw [hw9]; rfl) (by rw [hw9]; rfl) h4, _, rfl, ?_⟩
        rw [prs_len]
        refine own_frame HA.out.row fun k cs _ hc => (u2 k (fun e => ?_) (fun e => ?_) (fun e => ?_)).trans hc
        · rw [e, HA.out.res.l] at hc; cases hc
        · rw [e, HA.out.res.e] at hc; cases hc
        · rw [e, HA.out.res.n] at hc; cases hc⟩
end Go.Proofs.Ythfholnnkdoagaa
