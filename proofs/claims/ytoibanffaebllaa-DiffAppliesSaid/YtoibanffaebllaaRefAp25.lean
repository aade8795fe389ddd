/-
  Layer 25: the contract of the answer's Apply. Own work.
-/
import Derived.Test.YtoibanffaebllaaRap25
import Derived.Test.YtoibanffaebllaaRefMay24
import Derived.Test.YtoibanffaebllaaRefMayE25
namespace Go.Proofs.Ytoibanffaebllaa
set_option linter.unusedVariables false
set_option linter.unusedSimpArgs false
open Go.RowKit

theorem wpList_app_pins {ops : Array Oper} {rest : List Oper} {o : Oper} {a : Act} {w : World} {Q : Exit → Act → World → Prop} (hgd : o.guard = none) (base : Nat) (s x : Operand)
    (ho : o.op = .call { callee := .builtin .append, args := #[s, x], argTypes := #[24, 24] }) (v1 v2 : Value) (hs : a.eval s = v1) (hx : a.eval x = v2) (l m : List Pn) (hbase : base ≤ w.heap.size) (h1 : OwnN base w v1 l) (h2 : RdN w v2 m) (hn : l.length + m.length ≤ 1000000)
    (h : ∀ v' w', OwnN base w' v' (l ++ m) → Below base w w' → wpList Try.prog ops Q rest (a.put o.dst v') w') : wpList Try.prog ops Q (o :: rest) a w :=
  wpList_plain hgd fun _ hK => wp_app_pins base s x ho v1 v2 hs hx l m hbase h1 h2 hn fun v' w' h3 h4 => hK _ _ (h v' w' h3 h4)
theorem refap_results (tmps : Array Value) (w : World) (R : Nat) (cs : Array Value) (hs : cs.size = 4) (e : Value) (h2 : tmps.getD 4 undef = .pointer (some ⟨R, 0, none⟩)) (h3 : tmps.getD 5 undef = e)
    (hR : w.heap[R]? = some (.cells cs 26 (0, 0))) :
    (results Try.f16 tmps).run Try.prog w = .ok (.tuple #[.agg cs, e]) w := by
  have h2' : tmps[4]?.getD undef = .pointer (some ⟨R, 0, none⟩) := by simpa using h2
  have h3' : tmps[5]?.getD undef = e := by simpa using h3
  have l1 := run_loadVar_row w R 26 26 cs (0, 0) _ hR Try.underlying26 rfl (by rw [hs]; kernel_rfl)
  simp [results, Try.results16, h2', h3', asAddr, l1]
def RefApP (ok : Bool) (g a u : ByteArray) (m : List Pn) (w : World) (e : Ending) (w' : World) : Prop :=
  (ok = true ∧ ∃ pv, e = .returned (.tuple #[lockV g a u pv, .bool true]) ∧ RdN w' pv m ∧ Below w.heap.size w w') ∨
  (ok = false ∧ e = .returned (.tuple #[lockV ⟨#[]⟩ ⟨#[]⟩ ⟨#[]⟩ (.slice none 0 0), .bool false]) ∧ Below w.heap.size w w')
theorem stepP_len : ∀ (E : List Ed) (pins : List Pn), (E.foldl stepP pins).length ≤ pins.length + E.length
  | [], pins => by simp
  | e :: E, pins => by
    have h := stepP_len E (stepP pins e)
    have h2 := List.length_filter_le (fun p : Pn => !(sameK p.key e.key)) pins
    have h3 : (stepP pins e).length ≤ pins.length + 1 := by
      unfold stepP
      rw [List.length_append]
      split <;> simp <;> omega
    rw [List.foldl_cons, List.length_cons]
    omega
theorem KeyR.far {w : World} {b : Addr} {q : K4} {L : Nat} {g a u : ByteArray} {v : Value} {base e s n : Nat} {xs : List Value} (h : KeyR w b q) (hL : w.heap[L]? = some (mkL g a u v)) (ho : w.ownsRow base e s v n xs) : b.block ≠ L := by
  intro hb
  have h3 := h 3 _ rfl
  have e3 : b.add 3 = ⟨L, b.off + 3, none⟩ := by unfold Addr.add; rw [if_neg (by omega), hb]
  rw [e3, cell_of_row w L _ _ _ (0, 0) hL] at h3
  by_cases h0 : b.off = 0
  · rw [h0] at h3
    have hv : v = .string q.c := by simpa using h3
    subst hv
    obtain ⟨_, hc⟩ := ho
    rcases hc with ⟨hc, _⟩ | ⟨_, _, _, hc, _⟩ <;> cases hc
  · have : (#[Value.string g, .string a, .string u, v])[b.off + 3]? = none := by simp; omega
    rw [this] at h3; cases h3
theorem gi_far {L : Nat} {mk : Value → Obj} {e s n n0 : Nat} {w0 w1 w : World} {xs xs0 : List Value} {r r0 : Option Nat} (h0 : GI L (L + 1) mk e s w0 n0 xs0 r0 w1) (h1 : GI L (L + 1) mk e s w0 n xs r w) (hs : Stp (L + 1) none w1 r w) {p : Nat} (hp : p ≠ L) (hlt : p < w1.heap.size) : w.heap[p]? = w1.heap[p]? := by
  by_cases hl : p < L
  · exact (h1.b.block p hl).trans (h0.b.block p hl).symm
  · exact hs.block p (by omega) hlt (by simp)
set_option maxRecDepth 100000 in
set_option maxHeartbeats 8000000 in
theorem refApply_any (g a u : ByteArray) (hg : okT g) (ha : okT a) (hu : okT u) (pvA vE : Value) (lA : List Pn) (E : List Ed) (okA : ∀ p ∈ lA, okP p) (okE : ∀ e ∈ E, okP e.new) (hlA : lA.length ≤ 1000) (hlE : E.length ≤ 1000) (w : World) (hrA : RdN w pvA lA) (hrE : RdE w vE E) :
    Calls Try.prog 16 #[lockV g a u pvA, vE] w (RefApP (applyOk g a u lA E) g a u (apply lA E) w) := by
  obtain ⟨pA, qA, rfl⟩ := hrA.shape
  obtain ⟨pE, qE, rfl⟩ := hrE.shape
  have hma := fun w' hr => refMay_any g a u hg ha hu (.slice pA lA.length qA) lA okA (by omega) w' hr
  have hme := fun w' hr => refMayE_any (.slice pE E.length qE) E (by omega) w' hr
  have hok : applyOk g a u lA E = (mayLock g a u lA && (mayEds E && (fits lA E && mayLock g a u (apply lA E)))) := rfl
  generalize hOK : applyOk g a u lA E = OK at hok ⊢
  generalize hM1 : mayLock g a u lA = m1 at hma hok
  generalize hM2 : mayEds E = m2 at hme hok
  unfold lockV at hma ⊢
  have hb0 : Below w.heap.size w ((w.alloc (.cells #[.string g, .string a, .string u, .slice pA lA.length qA] 26)).alloc (.cells #[.string ⟨#[]⟩, .string ⟨#[]⟩, .string ⟨#[]⟩, .slice none 0 0] 26)) := ((Below.refl w.heap.size w).alloc (Nat.le_refl _) _).alloc (by simp) _
  have hk1 : LkIn ((w.alloc (.cells #[.string g, .string a, .string u, .slice pA lA.length qA] 26)).alloc (.cells #[.string ⟨#[]⟩, .string ⟨#[]⟩, .string ⟨#[]⟩, .slice none 0 0] 26)) w.heap.size g a u (.slice pA lA.length qA) := (LkIn.new w g a u _).below ((Below.refl _ _).alloc (Nat.le_refl _) _) (Nat.le_refl _)
  have hk3 : ((w.alloc (.cells #[.string g, .string a, .string u, .slice pA lA.length qA] 26)).alloc (.cells #[.string ⟨#[]⟩, .string ⟨#[]⟩, .string ⟨#[]⟩, .slice none 0 0] 26)).heap[w.heap.size + 1]? = some (.cells #[.string ⟨#[]⟩, .string ⟨#[]⟩, .string ⟨#[]⟩, .slice none 0 0] 26 (0, 0)) := by
    have := heap_alloc_new (w.alloc (.cells #[.string g, .string a, .string u, .slice pA lA.length qA] 26)) (.cells #[.string ⟨#[]⟩, .string ⟨#[]⟩, .string ⟨#[]⟩, .slice none 0 0] 26)
    simpa using this
  have HMA := Lib.hid hma
  have HME := Lib.hid hme
  have HOK := Lib.hid hok
  have HM1 := Lib.hid hM1
  have HM2 := Lib.hid hM2
  have HRA := Lib.hid (hrA.below hb0 (Nat.le_refl _))
  have HRE := Lib.hid (hrE.below hb0 (Nat.le_refl _))
  have HB0 := Lib.hid hb0
  clear hma hme hok hrA hrE hb0 hM1 hM2 hOK
  go_enter Try.func16, Try.ntmps16
  go_upto_region 1 with fail
  generalize ((w.alloc (.cells #[.string g, .string a, .string u, .slice pA lA.length qA] 26)).alloc (.cells #[.string ⟨#[]⟩, .string ⟨#[]⟩, .string ⟨#[]⟩, .slice none 0 0] 26)) = w1 at hk1 hk3 HRA HRE HB0 ⊢
  obtain ⟨R, hR⟩ : ∃ R, R = w.heap.size + 1 := ⟨_, rfl⟩
  rw [← hR] at hk3
  simp only [← hR]
  have HRG := Lib.hid (show w.heap.size ≤ R from by omega)
  clear hR
  have HK1 := Lib.hid hk1
  have HK3 := Lib.hid hk3
  have HRW := Lib.hid (show R < w1.heap.size from (Array.getElem?_eq_some_iff.1 hk3).1)
  clear hk3
  obtain ⟨x0, x1, x2, x3⟩ := hk1
  go_wp2_with fail
  refine (HMA.out _ HRA.out).mono ?_
  rintro e w2 ⟨rfl, hb2⟩
  have HB2 := Lib.hid hb2
  have HR2 := Lib.hid ((hb2.block R HRW.out).trans HK3.out)
  clear x0 x1 x2 x3 hb2
  cases m1
  · go_wp2_with (refine wpList_store_row rfl 26 _ _ rfl R #[.string ⟨#[]⟩, .string ⟨#[]⟩, .string ⟨#[]⟩, .slice none 0 0] rfl rfl 26 _ HR2.out (by kernel_rfl) rfl (by simp [Value.oneCell']) ?_)
    refine bodyPost_ret (refap_results _ _ R #[.string ⟨#[]⟩, .string ⟨#[]⟩, .string ⟨#[]⟩, .slice none 0 0] rfl _ rfl rfl (setRow_heap w2 R _ _ _ _ HR2.out)) rfl ?_
    exact .inr ⟨by rw [HOK.out]; rfl, rfl, below_setRow (HB0.out.trans (HB2.out.mono HB0.out.size)) HRG.out⟩
  go_wp2_with fail
  refine (HME.out _ (HRE.out.below HB2.out (Nat.le_refl _))).mono ?_
  rintro e w3 ⟨rfl, hb3⟩
  have HB3 := Lib.hid (HB2.out.trans (hb3.mono HB2.out.size))
  have HR3 := Lib.hid ((HB3.out.block R HRW.out).trans HK3.out)
  clear hb3 HB2 HR2
  cases m2
  · go_wp2_with (refine wpList_store_row rfl 26 _ _ rfl R #[.string ⟨#[]⟩, .string ⟨#[]⟩, .string ⟨#[]⟩, .slice none 0 0] rfl rfl 26 _ HR3.out (by kernel_rfl) rfl (by simp [Value.oneCell']) ?_)
    refine bodyPost_ret (refap_results _ _ R #[.string ⟨#[]⟩, .string ⟨#[]⟩, .string ⟨#[]⟩, .slice none 0 0] rfl _ rfl rfl (setRow_heap w3 R _ _ _ _ HR3.out)) rfl ?_
    exact .inr ⟨by rw [HOK.out]; rfl, rfl, below_setRow (HB0.out.trans (HB3.out.mono HB0.out.size)) HRG.out⟩
  have hal : Below w3.heap.size w3 (w3.alloc (.cells #[] 48)) := (Below.refl _ _).alloc (Nat.le_refl _) _
  have HRN := Lib.hid ((HRA.out.below HB3.out (Nat.le_refl _)).below hal (Nat.le_refl _))
  have HAL := Lib.hid hal
  obtain ⟨x0, x1, x2, x3⟩ := (HK1.out.below HB3.out (Nat.le_refl _)).below hal (Nat.le_refl _)
  clear hal
  go_wp2_with (at_builtin; refine wpList_app_pins rfl w3.heap.size _ _ rfl (.slice (some ⟨w3.heap.size, 0, none⟩) 0 0) (.slice pA lA.length qA) rfl rfl [] lA HAL.out.size (.inl ⟨rfl, _, rfl⟩) HRN.out (by simp; omega) ?_)
  intro v6 w4 ho hb4
  clear x0 x1 x2 x3
  have HB4 := Lib.hid (HAL.out.trans hb4)
  have HO4 := Lib.hid ho.rd
  clear ho hb4
  have hlE2 : (E.length : Int) ≤ 1000 := by omega
  go_wp2_with fail
  go_loopw [6, 34] (fun v i wr => ∃ k : Nat, k ≤ E.length ∧ i = .int .i64 k ∧ RdN wr v ((E.take k).foldl stepP lA) ∧ (E.take k).all (fitR lA) = true ∧ Below w3.heap.size w3 wr) (fun _ i _ => E.length - (intOf i).toNat)
  case atStart => exact ⟨0, by omega, rfl, by simpa using HO4.out, rfl, HB4.out⟩
  case round =>
    obtain ⟨k, hk, rfl, hrd, hfit, hb⟩ := hrel
    have HB := Lib.hid hb
    have HRD := Lib.hid hrd
    have HFIT := Lib.hid hfit
    obtain ⟨I, hI⟩ : ∃ I : Int, I = (k : Int) := ⟨_, rfl⟩
    have hIt : I.toNat = k := by omega
    have hI0 : (0 : Int) ≤ I := by omega
    have HI := Lib.hid hI
    rw [← hI]
    by_cases hlt : k < E.length
    · obtain ⟨x, hx⟩ : ∃ x, E[k]? = some x := ⟨_, List.getElem?_eq_getElem hlt⟩
      obtain ⟨t0, rfl, _, _, _, hc1⟩ := HRE.out.elem hx
      have h1 := RdE.atR hc1 hx (HB3.out.trans (hb.mono HB3.out.size)) (Nat.le_refl _)
      rw [← hIt] at h1
      have H1 := Lib.hid h1
      have HX := Lib.hid hx
      have hltI : I < E.length := by omega
      have hedin := EdIn.new wr x
      have HW6 := Lib.hid (show Below wr.heap.size wr (wr.alloc (.cells #[.string x.key.g, .string x.key.a, .string x.key.t, .string x.key.c, .bool x.had, .bool x.has, .string x.old.g, .string x.old.a, .string x.old.t, .string x.old.c, .string x.old.v, .int .i64 x.old.sc, .string x.new.g, .string x.new.a, .string x.new.t, .string x.new.c, .string x.new.v, .int .i64 x.new.sc] 50)) from (Below.refl _ _).alloc (Nat.le_refl _) _)
      have hb1 := hb.alloc hb.size (.cells #[.string x.key.g, .string x.key.a, .string x.key.t, .string x.key.c, .bool x.had, .bool x.has, .string x.old.g, .string x.old.a, .string x.old.t, .string x.old.c, .string x.old.v, .int .i64 x.old.sc, .string x.new.g, .string x.new.a, .string x.new.t, .string x.new.c, .string x.new.v, .int .i64 x.new.sc] 50)
      clear hc1 hx hb h1 hI hIt hrd hfit
      go_upto_region 7 with (first
        | (refine wpList_load_ed rfl _ rfl _ rfl x H1.out ?_)
        | (refine wpList_store_ed rfl _ _ rfl _ rfl rfl x rfl ?_))
      generalize wr.alloc (.cells #[.string x.key.g, .string x.key.a, .string x.key.t, .string x.key.c, .bool x.had, .bool x.has, .string x.old.g, .string x.old.a, .string x.old.t, .string x.old.c, .string x.old.v, .int .i64 x.old.sc, .string x.new.g, .string x.new.a, .string x.new.t, .string x.new.c, .string x.new.v, .int .i64 x.new.sc] 50) = w6 at hedin hb1 HW6 ⊢
      have HRD6 := Lib.hid (HRD.out.below HW6.out (Nat.le_refl _))
      clear HW6
      generalize wr.heap.size = V at hedin ⊢
      have HEDI := Lib.hid hedin
      have HB6 := Lib.hid hb1
      simp only [Act.put]
      obtain ⟨o1, ho1⟩ : ∃ o, o = (findP x.key lA).getD zP := ⟨_, rfl⟩
      obtain ⟨b1, hb1⟩ : ∃ o, o = (findP x.key lA).isSome := ⟨_, rfl⟩
      have hfi := fun w' hr => find_any (.slice pA lA.length qA) lA x.key (by omega) w' hr
      have hfr : fitR lA x = ((b1 == x.had) && sameP o1 x.old) := by rw [ho1, hb1]; rfl
      unfold FindP at hfi
      rw [← ho1, ← hb1] at hfi
      unfold pnV K4.val keyV at hfi
      have HFI := Lib.hid hfi
      have HFR := Lib.hid hfr
      clear hfi hfr ho1 hb1
      have HB16 := Lib.hid (HB3.out.trans (HB6.out.mono HB3.out.size))
      obtain ⟨x0, x1, x2, x3⟩ := HK1.out.below HB16.out (Nat.le_refl _)
      obtain ⟨y0, y1, y2, y3, _⟩ := hedin
      go_wp2_with fail
      refine (HFI.out _ (HRA.out.below HB16.out (Nat.le_refl _))).mono ?_
      rintro e w7 ⟨rfl, hb7⟩
      clear x0 x1 x2 x3 y0 y1 y2 y3
      have hpin := PinIn.new w7 o1
      have hal : Below w7.heap.size w7 (w7.alloc (.cells #[.string o1.g, .string o1.a, .string o1.t, .string o1.c, .string o1.v, .int .i64 o1.sc] 48)) := (Below.refl _ _).alloc (Nat.le_refl _) _
      have HB8 := Lib.hid (HB6.out.trans ((hb7.trans (hal.mono hb7.size)).mono HB6.out.size))
      have HED8 := Lib.hid (HEDI.out.below (hb7.trans (hal.mono hb7.size)) (Nat.le_refl _))
      have HRD8 := Lib.hid (HRD6.out.below (hb7.trans (hal.mono hb7.size)) (Nat.le_refl _))
      clear hal hb7
      go_upto_region 8 with fail
      generalize w7.alloc (.cells #[.string o1.g, .string o1.a, .string o1.t, .string o1.c, .string o1.v, .int .i64 o1.sc] 48) = w8 at hpin HB8 HED8 HRD8 ⊢
      generalize w7.heap.size = P8 at hpin ⊢
      obtain ⟨y0, y1, y2, y3, y4, y5, y6, y7, y8, y9, y10, y11, _⟩ := HED8.out
      obtain ⟨z0, z1, z2, z3, z4, z5⟩ := hpin
      have HR8 := Lib.hid (((HB3.out.trans (HB8.out.mono HB3.out.size)).block R HRW.out).trans HK3.out)
      have hbe : ∀ w, (binOp .neq 4 (.bool b1) (.bool x.had)).run Try.prog w = .ok (.bool (!(b1 == x.had))) w := fun w => by cases b1 <;> cases x.had <;> rfl
      have hpe := fun w => neq_pin o1 x.old w
      generalize (b1 == x.had) = t1 at hbe HFR
      generalize sameP o1 x.old = t2 at hpe HFR
      have hnofit : fitR lA x = false → OK = false := fun h => by
        rw [HOK.out, fits_fitR (mayLock_ok HM1.out) HM2.out]
        have : E.all (fitR lA) = false := by
          rw [Bool.eq_false_iff]
          intro ha
          rw [List.all_eq_true.1 ha x (List.mem_of_getElem? HX.out)] at h; cases h
        rw [this]; rfl
      have HNO := Lib.hid hnofit
      clear hnofit
      cases t1
      · go_wp2_with (refine wpList_store_row rfl 26 _ _ rfl R #[.string ⟨#[]⟩, .string ⟨#[]⟩, .string ⟨#[]⟩, .slice none 0 0] rfl rfl 26 _ HR8.out (by kernel_rfl) rfl (by simp [Value.oneCell']) ?_)
        refine bodyPost_ret (refap_results _ _ R #[.string ⟨#[]⟩, .string ⟨#[]⟩, .string ⟨#[]⟩, .slice none 0 0] rfl _ rfl rfl (setRow_heap w8 R _ _ _ _ HR8.out)) rfl ?_
        exact .inr ⟨HNO.out (HFR.out.trans (Bool.false_and _)), rfl, below_setRow (HB0.out.trans ((HB3.out.trans (HB8.out.mono HB3.out.size)).mono HB0.out.size)) HRG.out⟩
      cases t2
      · go_wp2_with (refine wpList_store_row rfl 26 _ _ rfl R #[.string ⟨#[]⟩, .string ⟨#[]⟩, .string ⟨#[]⟩, .slice none 0 0] rfl rfl 26 _ HR8.out (by kernel_rfl) rfl (by simp [Value.oneCell']) ?_)
        refine bodyPost_ret (refap_results _ _ R #[.string ⟨#[]⟩, .string ⟨#[]⟩, .string ⟨#[]⟩, .slice none 0 0] rfl _ rfl rfl (setRow_heap w8 R _ _ _ _ HR8.out)) rfl ?_
        exact .inr ⟨HNO.out (HFR.out.trans rfl), rfl, below_setRow (HB0.out.trans ((HB3.out.trans (HB8.out.mono HB3.out.size)).mono HB0.out.size)) HRG.out⟩
      have HFT := Lib.hid (HFR.out.trans rfl)
      have hfold : (E.take (k + 1)).foldl stepP lA = stepP ((E.take k).foldl stepP lA) x := by rw [List.take_add_one, HX.out, List.foldl_append]; rfl
      have hall : (E.take (k + 1)).all (fitR lA) = true := by rw [List.take_add_one, HX.out, List.all_append, HFIT.out, Bool.true_and]; simpa using HFT.out
      have hpl : ((E.take k).foldl stepP lA).length ≤ 2000 := by have := stepP_len (E.take k) lA; have h2 := List.length_take_le k E; omega
      have HFO := Lib.hid hfold
      have HALL := Lib.hid hall
      generalize (E.take k).foldl stepP lA = pins at HFO HRD8 HRD HRD6 hpl
      obtain ⟨pp, cc, hve⟩ := HRD8.out.shape
      subst hve
      have HPL := Lib.hid hpl
      have hplI : (pins.length : Int) ≤ 2000 := by omega
      clear hfold hall hpl HRD HRD6
      go_wp2_with fail
      clear y0 y1 y2 y3 y4 y5 y6 y7 y8 y9 y10 y11 z0 z1 z2 z3 z4 z5 hbe hpe
      go_loopw [11, 59] (fun v j wq => ∃ n : Nat, n ≤ pins.length ∧ j = .int .i64 n ∧ wq.ownsRow w8.heap.size 48 6 v ((pins.take n).filter fun p => !(sameK p.key x.key)).length (rowN ((pins.take n).filter fun p => !(sameK p.key x.key))) ∧ Below w8.heap.size w8 wq) (fun _ j _ => pins.length - (intOf j).toNat)
      case atStart => exact ⟨0, by omega, rfl, World.ownsRow_nil _ _ _ _, Below.refl _ _⟩
      case round =>
        obtain ⟨n, hn, rfl, hown, hq⟩ := hrel
        have HQ := Lib.hid hq
        obtain ⟨J, hJ⟩ : ∃ J : Int, J = (n : Int) := ⟨_, rfl⟩
        have hJt : J.toNat = n := by omega
        have hJ0 : (0 : Int) ≤ J := by omega
        have HJ := Lib.hid hJ
        rw [← hJ]
        by_cases hltn : n < pins.length
        · obtain ⟨p, hp⟩ : ∃ p, pins[n]? = some p := ⟨_, List.getElem?_eq_getElem hltn⟩
          obtain ⟨b2, rfl, _, _, _, hc⟩ := HRD8.out.elem hp
          have hltJ : J < pins.length := by omega
          have hat := RdN.at hc hp hq (Nat.le_refl _)
          rw [← hJt] at hat
          obtain ⟨k0, k1, k2, k3, k4, k5⟩ := hat
          have hfs : (pins.take (n + 1)).filter (fun p => !(sameK p.key x.key)) = (pins.take n).filter (fun p => !(sameK p.key x.key)) ++ (if sameK p.key x.key = true then [] else [p]) := by
            rw [List.take_add_one, hp, List.filter_append]
            cases h : sameK p.key x.key <;> simp [h]
          have hfl : ((pins.take n).filter fun p => !(sameK p.key x.key)).length ≤ 2000 := by have := List.length_filter_le (fun p : Pn => !(sameK p.key x.key)) (pins.take n); have h2 := List.length_take_le n pins; have := HPL.out; omega
          have HFS := Lib.hid hfs
          have HFL := Lib.hid hfl
          generalize (pins.take n).filter (fun p => !(sameK p.key x.key)) = lf at hown HFS HFL
          have HPIN := Lib.hid (PinIn.new wr p)
          have hba : Below wr.heap.size wr (wr.alloc (.cells #[.string p.g, .string p.a, .string p.t, .string p.c, .string p.v, .int .i64 p.sc] 48)) := (Below.refl _ _).alloc (Nat.le_refl _) _
          have HBA := Lib.hid (hq.trans (hba.mono hq.size))
          have HOW := Lib.hid (own_same (w' := wr.alloc (.cells #[.string p.g, .string p.a, .string p.t, .string p.c, .string p.v, .int .i64 p.sc] 48)) hown (fun g hg => hba.block g (hown.lt g hg).2))
          clear hc hp hq hJ hJt hfs hfl hown hba
          go_upto_region 14 with fail
          generalize wr.alloc (.cells #[.string p.g, .string p.a, .string p.t, .string p.c, .string p.v, .int .i64 p.sc] 48) = wa at HPIN HBA HOW ⊢
          generalize wr.heap.size = b5 at HPIN ⊢
          obtain ⟨y0, y1, y2, y3, y4, y5⟩ := HPIN.out
          obtain ⟨z0, z1, z2, z3, _⟩ := HED8.out.below HBA.out (Nat.le_refl _)
          have hnk := fun w => neq_key p.key x.key w
          have HSAME := Lib.hid (show sameK p.key x.key = sameK ⟨p.g, p.a, p.t, p.c⟩ x.key from rfl)
          unfold Pn.key at hnk
          simp only at hnk
          generalize sameK ⟨p.g, p.a, p.t, p.c⟩ x.key = s at hnk HSAME
          have HBS := Lib.hid HBA.out.size
          clear k0 k1 k2 k3 k4 k5
          cases s
          · go_wp2_with (at_builtin; refine app6p p rfl _ _ 24 48 rfl _ 88 w8.heap.size lf.length Try.underlying24 pn_info rfl _ _ rfl HOW.out (by simp [Act.eval]) (by have := HFL.out; omega) (by have := HFL.out; omega) HBS.out ?_)
            intro v' w9 ho3 hg3 hne3
            have HO3 := Lib.hid ho3
            have HB9 := Lib.hid (HBA.out.grown hg3 HBS.out (fun k hk => (HOW.out.lt k hk).1))
            clear ho3 hg3 hne3
            go_wp2
            go_roundw
            case rel =>
              refine ⟨n + 1, by omega, by rw [HJ.out]; go_num, ?_, HB9.out⟩
              rw [HFS.out, HSAME.out]
              have h := HO3.out
              rw [← rowN_snoc] at h
              simpa using h
            case measure => rw [HJ.out]; simp [intOf]; omega
          · go_wp2
            go_roundw
            case rel =>
              refine ⟨n + 1, by omega, by rw [HJ.out]; go_num, ?_, HBA.out⟩
              rw [HFS.out, HSAME.out]
              simpa using HOW.out
            case measure => rw [HJ.out]; simp [intOf]; omega
        · have hnl : n = pins.length := by omega
          have hltJ : (pins.length : Int) ≤ J := by omega
          have hown2 := hown
          rw [hnl, List.take_length] at hown2
          have HSTEP := Lib.hid (show stepP pins x = pins.filter (fun p => !(sameK p.key x.key)) ++ (if x.has = true then [x.new] else []) from rfl)
          have hfl : (pins.filter fun p => !(sameK p.key x.key)).length ≤ 2000 := by have := List.length_filter_le (fun p : Pn => !(sameK p.key x.key)) pins; have := HPL.out; omega
          have HFL := Lib.hid hfl
          generalize (pins.filter fun p => !(sameK p.key x.key)) = lf at hown2 HSTEP HFL
          obtain ⟨y0, y1, y2, y3, y4, y5, y6, y7, y8, y9, y10, y11, y12, y13, y14, y15, y16, y17⟩ := HED8.out.below hq (Nat.le_refl _)
          have HOW := Lib.hid hown2
          have HBQ := Lib.hid (HB8.out.trans (hq.mono HB8.out.size))
          have HBS := Lib.hid hq.size
          obtain ⟨hv, hhv⟩ : ∃ b, b = x.has := ⟨_, rfl⟩
          rw [← hhv] at y5 HSTEP
          clear hown hown2 hq hfl hnl hn hJ hJt y0 y1 y2 y3 y4 y6 y7 y8 y9 y10 y11 hhv
          cases hv
          · go_wp2
            go_roundw
            case rel => exact ⟨k + 1, by omega, by rw [HI.out]; go_num, by rw [HFO.out, HSTEP.out]; simpa using RdN.of_own HOW.out, HALL.out, HBQ.out⟩
            case measure => rw [HI.out]; simp [intOf]; omega
          · go_wp2_with (at_builtin; refine app6p x.new rfl _ _ 24 48 rfl _ 88 w8.heap.size lf.length Try.underlying24 pn_info rfl _ _ rfl HOW.out (by simp [Act.eval]) (by have := HFL.out; omega) (by have := HFL.out; omega) HBS.out ?_)
            intro v' w9 ho3 hg3 hne3
            have HO3 := Lib.hid ho3
            have HB9 := Lib.hid (HBQ.out.grown hg3 HBQ.out.size (fun g hg => Nat.le_trans HB8.out.size (HOW.out.lt g hg).1))
            clear ho3 hg3 hne3
            go_wp2
            go_roundw
            case rel =>
              refine ⟨k + 1, by omega, by rw [HI.out]; go_num, ?_, HALL.out, HB9.out⟩
              rw [HFO.out, HSTEP.out]
              have h := HO3.out
              rw [← rowN_snoc] at h
              exact RdN.of_own (by simpa using h)
            case measure => rw [HI.out]; simp [intOf]; omega
    · have hkk : k = E.length := by omega
      have hltI : (E.length : Int) ≤ I := by omega
      have hrd2 := HRD.out
      rw [hkk, List.take_length] at hrd2
      have hfit2 := HFIT.out
      rw [hkk, List.take_length] at hfit2
      have HOK2 := Lib.hid (show OK = mayLock g a u (apply lA E) from by rw [HOK.out, fits_fitR (mayLock_ok HM1.out) HM2.out, hfit2]; rfl)
      have hout := fun keys hk => outR_apply (keys := keys) (mayLock_ok HM1.out) HM2.out hk
      have hpl : (E.foldl stepP lA).length ≤ 2000 := by have := stepP_len E lA; omega
      have HOUT := Lib.hid hout
      have hmo := fun pv' w' hr => refMay_any g a u hg ha hu pv' (apply lA E) (fun p hp => by rcases apply_src hp with h | ⟨e, h, rfl⟩; exact okA p h; exact okE e h) (by have := apply_len lA E; omega) w' hr
      generalize hAP : apply lA E = AP at HOK2 HOUT hmo ⊢
      have HAP := Lib.hid hAP
      clear hAP
      generalize E.foldl stepP lA = pins at hrd2 HOUT hpl
      obtain ⟨pp, cc, hve⟩ := hrd2.shape
      subst hve
      have HRP := Lib.hid hrd2
      have HPL := Lib.hid hpl
      have hbw := HB3.out.trans (hb.mono HB3.out.size)
      have HBW := Lib.hid hbw
      have HRr := Lib.hid ((hbw.block R HRW.out).trans HK3.out)
      have HRRW := Lib.hid (show R < wr.heap.size from Nat.lt_of_lt_of_le HRW.out hbw.size)
      obtain ⟨x0, x1, x2, x3⟩ := HK1.out.below hbw (Nat.le_refl _)
      have hgi0 : GI wr.heap.size (wr.heap.size + 1) (mkL g a u) 48 6 wr 0 (rowN []) none (wr.alloc (.cells #[.string g, .string a, .string u, .slice none 0 0] 26)) := ⟨rfl, by omega, (Below.refl _ _).alloc (Nat.le_refl _) _, by simp, _, heap_alloc_new wr _, World.ownsRow_nil _ _ _ _, rfl⟩
      unfold lockV at hmo
      have HMO := Lib.hid hmo
      clear hb hrd hfit hrd2 hfit2 hout hpl hmo hbw hkk hI hIt HFIT HRD
      go_upto_region 22 with fail
      generalize wr.alloc (.cells #[.string g, .string a, .string u, .slice none 0 0] 26) = wl at hgi0 ⊢
      obtain ⟨L, hL⟩ : ∃ L, L = wr.heap.size := ⟨_, rfl⟩
      rw [← hL] at hgi0 ⊢
      have HLE := Lib.hid hL
      have HGI0 := Lib.hid hgi0
      have HRPL := Lib.hid (HRP.out.below hgi0.b (Nat.le_of_eq hgi0.sz))
      have hky := Keys_any (.slice pp pins.length cc) pins (by have := HPL.out; omega) wl HRPL.out
      clear hgi0 hL x0 x1 x2 x3
      go_wp2_with fail
      refine hky.mono ?_
      rintro e wk ⟨vK, keys, rfl, hrk, hik, hbk⟩
      clear hky
      obtain ⟨ka, kc, rfl⟩ := hrk.shape
      have HRK := Lib.hid hrk
      have HIK := Lib.hid hik
      have HGI1 := Lib.hid (HGI0.out.below hbk)
      have hkl : keys.length ≤ 2000 := by have := hik.2.2; have := HPL.out; omega
      have hklI : (keys.length : Int) ≤ 2000 := by omega
      have HKL := Lib.hid hkl
      clear hrk hik hbk hkl
      go_wp2_with fail
      go_loopw [88] (fun i wq => ∃ n r, n ≤ keys.length ∧ i = .int .i64 n ∧ GI L (L + 1) (mkL g a u) 48 6 wr (outR (keys.take n) pins).length (rowN (outR (keys.take n) pins)) r wq ∧ Stp (L + 1) none wk r wq) (fun i _ => keys.length - (intOf i).toNat)
      case atStart => exact ⟨0, none, by omega, rfl, HGI1.out, Stp.refl _ _ _⟩
      case round =>
        obtain ⟨n, r, hn, rfl, hgi, hst⟩ := hrel
        have HGI := Lib.hid hgi
        have HST := Lib.hid hst
        obtain ⟨J, hJ⟩ : ∃ J : Int, J = (n : Int) := ⟨_, rfl⟩
        have hJt : J.toNat = n := by omega
        have hJ0 : (0 : Int) ≤ J := by omega
        have HJ := Lib.hid hJ
        rw [← hJ]
        by_cases hltn : n < keys.length
        · obtain ⟨q, hq⟩ : ∃ q, keys[n]? = some q := ⟨_, List.getElem?_eq_getElem hltn⟩
          obtain ⟨b2, rfl, hkr0⟩ := HRK.out.elem hq
          obtain ⟨vl, hvl, hol, hx⟩ := HGI1.out.row
          clear hx
          have hfar := KeyR.far hkr0 hvl hol
          have hlk : (b2.add (n * 4)).block < wk.heap.size := by have := World.block_lt_of_cell? wk _ (hkr0 0 _ rfl); rwa [add_block] at this
          have hkr : KeyR wr (b2.add (n * 4)) q := fun c u hu => (World.cell?_of_block (by rw [add_block]; exact gi_far HGI1.out hgi hst hfar hlk)).trans (hkr0 c u hu)
          rw [← hJt] at hkr
          have hltJ : J < keys.length := by omega
          have k0 : wr.cell? (b2.add (J.toNat * 4)) = some (.string q.g) := hkr 0 _ rfl
          have k1 : wr.cell? ⟨(b2.add (J.toNat * 4)).block, (b2.add (J.toNat * 4)).off + 1, none⟩ = some (.string q.a) := hkr 1 _ rfl
          have k2 : wr.cell? ⟨(b2.add (J.toNat * 4)).block, (b2.add (J.toNat * 4)).off + 2, none⟩ = some (.string q.t) := hkr 2 _ rfl
          have k3 : wr.cell? ⟨(b2.add (J.toNat * 4)).block, (b2.add (J.toNat * 4)).off + 3, none⟩ = some (.string q.c) := hkr 3 _ rfl
          have hsucc : outR (keys.take (n + 1)) pins = outR (keys.take n) pins ++ [(findP q pins).getD zP] := by unfold outR; rw [List.take_add_one, hq, List.map_append]; rfl
          have hol : (outR (keys.take n) pins).length ≤ 2000 := by unfold outR; rw [List.length_map]; have := List.length_take_le n keys; have := HKL.out; omega
          have HSUC := Lib.hid hsucc
          have HOL := Lib.hid hol
          clear hgi hst
          generalize outR (keys.take n) pins = out at HGI HSUC HOL
          have hal : Below wr.heap.size wr (wr.alloc (.cells #[.string q.g, .string q.a, .string q.t, .string q.c] 46)) := (Below.refl _ _).alloc (Nat.le_refl _) _
          have hnk := heap_alloc_new wr (.cells #[.string q.g, .string q.a, .string q.t, .string q.c] 46)
          have hgi2 := HGI.out.below hal
          have hst2 := HST.out.trans (Stp.of_below hal)
          clear hkr0 hvl hol hfar hlk hkr hsucc hJ hJt hq hal
          go_upto_region 25 with fail
          generalize wr.alloc (.cells #[.string q.g, .string q.a, .string q.t, .string q.c] 46) = wa at hnk hgi2 hst2 ⊢
          generalize wr.heap.size = N1 at hnk ⊢
          clear k0 k1 k2 k3
          have n0 : wa.cell? ⟨N1, 0, none⟩ = some (.string q.g) := by rw [cell_of_row wa N1 0 _ _ (0, 0) hnk]; rfl
          have n1 : wa.cell? ⟨N1, 1, none⟩ = some (.string q.a) := by rw [cell_of_row wa N1 1 _ _ (0, 0) hnk]; rfl
          have n2 : wa.cell? ⟨N1, 2, none⟩ = some (.string q.t) := by rw [cell_of_row wa N1 2 _ _ (0, 0) hnk]; rfl
          have n3 : wa.cell? ⟨N1, 3, none⟩ = some (.string q.c) := by rw [cell_of_row wa N1 3 _ _ (0, 0) hnk]; rfl
          have hfa := find_any (.slice pp pins.length cc) pins q (by have := HPL.out; omega) wa (HRP.out.below hgi2.b (Nat.le_of_eq hgi2.sz))
          obtain ⟨o1, ho1⟩ : ∃ o, o = (findP q pins).getD zP := ⟨_, rfl⟩
          obtain ⟨b1, hb1⟩ : ∃ o, o = (findP q pins).isSome := ⟨_, rfl⟩
          unfold FindP at hfa
          rw [← ho1, ← hb1] at hfa
          rw [← ho1] at HSUC
          unfold pnV K4.val keyV at hfa
          have HFA := Lib.hid hfa
          have HGI2 := Lib.hid hgi2
          have HST2 := Lib.hid hst2
          clear hfa ho1 hb1 hgi2 hst2 hnk
          go_wp2_with fail
          refine HFA.out.mono ?_
          rintro e wc ⟨rfl, hbc⟩
          have hal : Below wc.heap.size wc (wc.alloc (.cells #[.string o1.g, .string o1.a, .string o1.t, .string o1.c, .string o1.v, .int .i64 o1.sc] 48)) := (Below.refl _ _).alloc (Nat.le_refl _) _
          have hpin := PinIn.new wc o1
          have hgi3 := (HGI2.out.below hbc).below hal
          have hst3 := (HST2.out.trans (Stp.of_below hbc)).trans (Stp.of_below hal)
          clear n0 n1 n2 n3 hbc hal HFA
          go_upto_region 26 with fail
          generalize wc.alloc (.cells #[.string o1.g, .string o1.a, .string o1.t, .string o1.c, .string o1.v, .int .i64 o1.sc] 48) = w2 at hpin hgi3 hst3 ⊢
          generalize wc.heap.size = P8 at hpin ⊢
          obtain ⟨z0, z1, z2, z3, z4, z5⟩ := hpin
          have HG2 := Lib.hid hgi3
          have HST3 := Lib.hid hst3
          clear hgi3 hst3
          obtain ⟨v, hv, hown, hrv⟩ := HG2.out.row
          have hc3 : w2.cell? ⟨L, 3, none⟩ = some v := by rw [cell_of_row w2 L 3 _ _ (0, 0) hv]; rfl
          have HV := Lib.hid hv
          have HRV := Lib.hid hrv
          have HOWN := Lib.hid hown
          have HLE2 := Lib.hid (show ∀ k, v.ownBlock = some k → L + 1 ≤ k from fun k hk => (hown.lt k hk).1)
          have HZ2 := Lib.hid HG2.out.bs
          have HFR := Lib.hid (fun (w3 : World) (hg : w2.grownBy w3 v.ownBlock) => show w3.frozen? ⟨L, 3, none⟩ = false ∧ w3.heap[L]? = some (Obj.cells #[.string g, .string a, .string u, v] 26 (0, 0)) from by
            have h3 : w3.heap[L]? = some (Obj.cells #[.string g, .string a, .string u, v] 26 (0, 0)) := (hg.block L (by have := HZ2.out; omega) (fun e => by have := HLE2.out L e.symm; omega)).trans HV.out
            exact ⟨frozen_of_row w3 L 3 _ _ h3, h3⟩)
          clear hv hrv hown
          go_wp2_with (at_builtin; refine app6p o1 rfl _ _ 24 48 rfl _ 88 (L + 1) out.length Try.underlying24 pn_info rfl v _ rfl HOWN.out (by simp [Act.eval]) (by have := HOL.out; omega) (by have := HOL.out; omega) HZ2.out ?_)
          intro v' w3 ho3 hg3 hne3
          obtain ⟨f1, hL3⟩ := HFR.out w3 hg3
          have hL4 : (w3.setCell ⟨L, 3, none⟩ v').heap[L]? = some (mkL g a u v') := by
            have := heap_setCell_same w3 L 3 _ _ v' hL3
            show _ = some (Obj.cells #[.string g, .string a, .string u, v'] 26 (0, 0))
            simpa using this
          have h34 : w3.grownBy (w3.setCell ⟨L, 3, none⟩ v') (some L) := ⟨rfl, rfl, rfl, by simp, fun k _ hk => heap_setCell_other w3 ⟨L, 3, none⟩ k v' (fun e => hk (by simp [e]))⟩
          have HFIN := Lib.hid (HG2.out.add HV.out HRV.out HOWN.out (Below.refl _ w2) ho3 hg3 hne3 h34 hL4)
          have hc3' : w3.cell? ⟨L, 3, none⟩ = some v := by rw [cell_of_row w3 L 3 _ _ (0, 0) hL3]; rfl
          obtain ⟨g1, cap1, rfl⟩ : ∃ g cap, v' = .slice (some ⟨g, 0, none⟩) (out.length + 1) cap := by
            rcases ho3.2 with ⟨_, h0⟩ | ⟨g, cap, cur, hv, _⟩
            · omega
            · exact ⟨g, cap, hv⟩
          clear ho3 hg3 hne3 hL3 hL4 h34 hc3
          go_wp2
          go_roundw
          case rel =>
            refine ⟨n + 1, _, by omega, by rw [HJ.out]; go_num, ?_, HST3.out.trans HFIN.out.2⟩
            rw [HSUC.out]
            have h := HFIN.out.1
            rw [← rowN_snoc] at h
            simpa using h
          case measure => rw [HJ.out]; simp [intOf]; omega
        · have hnk : n = keys.length := by omega
          have hltJ : (keys.length : Int) ≤ J := by omega
          have hgi2 := hgi
          rw [hnk, List.take_length, HOUT.out keys HIK.out] at hgi2
          obtain ⟨v, hv, hown, hrv⟩ := hgi2.row
          have hrd := RdN.of_own hown
          obtain ⟨pv, cv, hve⟩ := hrd.shape
          subst hve
          have c0 : wr.cell? ⟨L, 0, none⟩ = some (.string g) := by rw [cell_of_row wr L 0 _ _ (0, 0) hv]; rfl
          have c1 : wr.cell? ⟨L, 1, none⟩ = some (.string a) := by rw [cell_of_row wr L 1 _ _ (0, 0) hv]; rfl
          have c2 : wr.cell? ⟨L, 2, none⟩ = some (.string u) := by rw [cell_of_row wr L 2 _ _ (0, 0) hv]; rfl
          have c3 : wr.cell? ⟨L, 3, none⟩ = some (.slice pv AP.length cv) := by rw [cell_of_row wr L 3 _ _ (0, 0) hv]; rfl
          have hRL : R < L := by have := HRRW.out; have := HLE.out; omega
          have HRL := Lib.hid hRL
          have HRk := Lib.hid ((hgi2.b.block R hRL).trans HRr.out)
          have HVL := Lib.hid hv
          have HOWN := Lib.hid hown
          have HRD := Lib.hid hrd
          have HLW := Lib.hid (show L < wr.heap.size from hgi2.bs)
          have HBE := Lib.hid (HB0.out.trans ((HBW.out.trans (hgi2.b.mono (by rw [HLE.out]; exact HBW.out.size))).mono HB0.out.size))
          clear hgi hst hgi2 hv hown hrd hRL hnk hn hJ hJt hrv
          go_wp2_with fail
          refine (HMO.out _ _ HRD.out).mono ?_
          rintro e wm ⟨rfl, hbm⟩
          have HRm := Lib.hid ((hbm.block R (Nat.lt_trans HRL.out HLW.out)).trans HRk.out)
          have hvm := (hbm.block L HLW.out).trans HVL.out
          have HBM := Lib.hid hbm
          have HBF := Lib.hid (HBE.out.trans (hbm.mono HBE.out.size))
          clear c0 c1 c2 c3 hbm
          generalize mayLock g a u AP = b4 at HOK2 ⊢
          cases b4
          · go_wp2_with (refine wpList_store_row rfl 26 _ _ rfl R #[.string ⟨#[]⟩, .string ⟨#[]⟩, .string ⟨#[]⟩, .slice none 0 0] rfl rfl 26 _ HRm.out (by kernel_rfl) rfl (by simp [Value.oneCell']) ?_)
            refine bodyPost_ret (refap_results _ _ R #[.string ⟨#[]⟩, .string ⟨#[]⟩, .string ⟨#[]⟩, .slice none 0 0] rfl _ rfl rfl (setRow_heap wm R _ _ _ _ HRm.out)) rfl ?_
            exact .inr ⟨HOK2.out, rfl, below_setRow HBF.out HRG.out⟩
          have c0 : wm.cell? ⟨L, 0, none⟩ = some (.string g) := by rw [cell_of_row wm L 0 _ _ (0, 0) hvm]; rfl
          have c1 : wm.cell? ⟨L, 1, none⟩ = some (.string a) := by rw [cell_of_row wm L 1 _ _ (0, 0) hvm]; rfl
          have c2 : wm.cell? ⟨L, 2, none⟩ = some (.string u) := by rw [cell_of_row wm L 2 _ _ (0, 0) hvm]; rfl
          have c3 : wm.cell? ⟨L, 3, none⟩ = some (.slice pv AP.length cv) := by rw [cell_of_row wm L 3 _ _ (0, 0) hvm]; rfl
          clear hvm
          go_wp2_with (refine wpList_store_row rfl 26 _ _ rfl R #[.string g, .string a, .string u, .slice pv AP.length cv] rfl rfl 26 _ HRm.out (by kernel_rfl) rfl (by simp [Value.oneCell']) ?_)
          refine bodyPost_ret (refap_results _ _ R #[.string g, .string a, .string u, .slice pv AP.length cv] rfl _ rfl rfl (setRow_heap wm R _ _ _ _ HRm.out)) rfl ?_
          exact .inl ⟨HOK2.out, _, rfl, by rw [HAP.out]; exact RdN.of_own (own_same HOWN.out (fun b hb => (setRow_other wm R b _ (by have := (HOWN.out.lt b hb).1; have := HRL.out; omega)).trans (HBM.out.block b (HOWN.out.lt b hb).2))), below_setRow HBF.out HRG.out⟩
end Go.Proofs.Ytoibanffaebllaa
