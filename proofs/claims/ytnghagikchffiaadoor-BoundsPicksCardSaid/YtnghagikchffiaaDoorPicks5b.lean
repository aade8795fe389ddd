/-
  Layer 5: the walk of BoundsPicks. Own work.
-/
import Derived.Test.YtnghagikchffiaaDoorPicks5
import Derived.Test.YtnghagikchffiaaDoorHas5b
import Derived.Deep.Cut
import Derived.Deep.CutRange
import Derived.Deep.CutBlock
import Derived.Deep.QuietTactic
import Derived.BigQuiet
namespace Go.Proofs.YtnghagikchffiaaDoor
set_option linter.unusedVariables false
set_option linter.unusedSimpArgs false
open Go.RowKit Go.Joins

/-- two rows of texts of one's own -/
def Own2 (w : World) (m q : List ByteArray) (v5 v6 : Value) (wx : World) : Prop :=
  wx.ownsRow w.heap.size 9 1 v5 m.length (m.map sV) ∧ wx.ownsRow w.heap.size 9 1 v6 q.length (q.map sV) ∧ (∀ k, v5.ownBlock = some k → v6.ownBlock ≠ some k) ∧ Below w.heap.size w wx
theorem own2_nil (w : World) : Own2 w [] [] (.slice none 0 0) (.slice none 0 0) w := ⟨World.ownsRow_nil _ _ _ _, World.ownsRow_nil _ _ _ _, fun k h => by simp [Value.ownBlock] at h, Below.refl _ _⟩
theorem Own2.below {w wx wy : World} {m q : List ByteArray} {v5 v6 : Value} (h : Own2 w m q v5 v6 wx) (hb : Below wx.heap.size wx wy) : Own2 w m q v5 v6 wy :=
  ⟨h.1.kept (below_grown hb none) (by cases hc : v5.ownBlock <;> simp), h.2.1.kept (below_grown hb none) (by cases hc : v6.ownBlock <;> simp), h.2.2.1, h.2.2.2.trans (hb.mono h.2.2.2.size)⟩
theorem Own2.left {w w0 w' : World} {m q : List ByteArray} {v5 v6 v' : Value} {s : ByteArray} {n : Nat} {xs : List Value} (h : Own2 w m q v5 v6 w0) (hn : n = m.length) (hxs : xs = m.map sV) (ho : w'.ownsRow w.heap.size 9 1 v' (n + 1) (xs ++ [.string s])) (hg : w0.grownBy w' v5.ownBlock) (hb : Below w.heap.size w0 w')
    (hd : ∀ k, k < w0.heap.size → v5.ownBlock ≠ some k → v'.ownBlock ≠ some k) : Own2 w (m ++ [s]) q v' v6 w' := by
  subst hn; subst hxs
  refine ⟨by simpa [sV] using ho, h.2.1.kept hg ?_, fun k hk hk6 => ?_, h.2.2.2.trans hb⟩
  · cases hc : v6.ownBlock with
    | none => exact .inl rfl
    | some k => right; intro he; exact h.2.2.1 k he.symm hc
  · exact hd k (h.2.1.lt k hk6).2 (fun he => h.2.2.1 k he hk6) hk
theorem Own2.right {w w0 w' : World} {m q : List ByteArray} {v5 v6 v' : Value} {s : ByteArray} {n : Nat} {xs : List Value} (h : Own2 w m q v5 v6 w0) (hn : n = q.length) (hxs : xs = q.map sV) (ho : w'.ownsRow w.heap.size 9 1 v' (n + 1) (xs ++ [.string s])) (hg : w0.grownBy w' v6.ownBlock) (hb : Below w.heap.size w0 w')
    (hd : ∀ k, k < w0.heap.size → v6.ownBlock ≠ some k → v'.ownBlock ≠ some k) : Own2 w m (q ++ [s]) v5 v' w' := by
  subst hn; subst hxs
  refine ⟨h.1.kept hg ?_, by simpa [sV] using ho, fun k hk hk6 => ?_, h.2.2.2.trans hb⟩
  · cases hc : v5.ownBlock with
    | none => exact .inl rfl
    | some k => right; intro he; exact h.2.2.1 k hc he.symm
  · exact hd k (h.1.lt k hk).2 (fun he => h.2.2.1 k hk he) hk6
theorem hiS_small {q : List ByteArray} (h : ∀ s ∈ q, s.size ≤ 100) : (hiS q).1.size ≤ 100 := by
  cases q with
  | nil => simp [hiS]
  | cons x r => exact h _ (hiF_small (m := x :: r) (by simp) (fun s hs => by simp [hs]))
def PickRel (w1 : World) (l : List ByteArray) (hard : Bool) (iv : List Iv) (v5 v6 v7 v8 i : Value) (wr : World) : Prop :=
  ∃ (k : Nat) (u5 u6 : Value), u5 = v5 ∧ u6 = v6 ∧ k ≤ l.length ∧ k ≤ 60 ∧ (∀ s ∈ l.take k, s.size ≤ 100) ∧ i = .int .i64 k ∧ v7 = .string (hiS (amongF hard iv (l.take k))).1 ∧ v8 = .bool (hiS (amongF hard iv (l.take k))).2 ∧ Own2 w1 (l.take k) (amongF hard iv (l.take k)) u5 u6 wr
def PickEnd (w1 : World) (hard : Bool) (iv : List Iv) (v5 v6 v7 v8 : Value) (wr : World) : Prop :=
  ∃ (m : List ByteArray) (u5 u6 : Value), u5 = v5 ∧ u6 = v6 ∧ m.length ≤ 60 ∧ (∀ s ∈ m, s.size ≤ 100) ∧ v7 = .string (hiS (amongF hard iv m)).1 ∧ v8 = .bool (hiS (amongF hard iv m)).2 ∧ Own2 w1 m (amongF hard iv m) u5 u6 wr
theorem pick_step {w1 wr : World} {l M Q : List ByteArray} {hard fb : Bool} {iv : List Iv} {k : Nat} {s bs : ByteArray} {v5 v6 : Value} (hk : k < l.length) (h60 : k < 60) (hsz : ∀ x ∈ l.take (k + 1), x.size ≤ 100) (ht : l.take (k + 1) = M ++ [s]) (hq : amongF hard iv (l.take (k + 1)) = Q) (hb : hiS Q = (bs, fb)) (ho : Own2 w1 (M ++ [s]) Q v5 v6 wr) :
    PickRel w1 l hard iv v5 v6 (.string bs) (.bool fb) (.int .i64 ((k : Int) + 1)) wr :=
  ⟨k + 1, v5, v6, rfl, rfl, by omega, by omega, hsz, by go_num, by rw [hq, hb], by rw [hq, hb], by rw [hq, ht]; exact ho⟩
set_option maxRecDepth 100000 in
set_option maxHeartbeats 2000000 in
theorem walk_Picks0 (hard : Bool) (ver : ByteArray) (pa : Option Addr) (pc : Nat) (iv : List Iv) (la : Option Addr) (lc : Nat) (l : List ByteArray) (w : World) (hr : RdI w (.slice pa iv.length pc) iv) (hs : RdS w (.slice la l.length lc) l) (hz : ∀ s ∈ l, s.size ≤ 9223372036854775807)
    (hrc : ∀ s t : ByteArray, s.size ≤ 100000 → t.size ≤ 100000 → ∀ w, Calls Tryd.prog 21 #[.string s, .string t] w fun e w' => e = .returned (.int .i64 (cmpB s.data.toList t.data.toList)) ∧ Below w.heap.size w w')
    (hli : ∀ w', Below w.heap.size w w' → Calls Tryd.prog 14 #[.agg #[.bool hard, .string ver, .slice pa iv.length pc]] w' fun e w2 => ∃ bb, e = .returned (.bool bb) ∧ (bb = true → ∀ p ∈ iv, smallI p) ∧ Below w'.heap.size w' w2)
    (hlv : ∀ w', Below w.heap.size w w' → Calls Tryd.prog 13 #[] w' fun e w2 => e = .returned (.bool true) ∧ Below w'.heap.size w' w2) :
    Calls Tryd.prog 8 #[.agg #[.bool hard, .string ver, .slice pa iv.length pc], .slice la l.length lc] w fun e w' => e = .returned (.bool true) ∧ Below w.heap.size w w' := by
  have hlI := hs.len
  have HRC := Lib.hid hrc
  have HLI := Lib.hid hli
  have HLV := Lib.hid hlv
  have HR := Lib.hid hr
  have HS := Lib.hid hs
  have HZ := Lib.hid hz
  have hb0 : Below w.heap.size w (w.alloc (.cells #[.bool hard, .string ver, .slice pa iv.length pc] 25)) := (Below.refl w.heap.size w).alloc (Nat.le_refl _) _
  have HB0 := Lib.hid hb0
  have HV := Lib.hid (show VarR (w.alloc (.cells #[.bool hard, .string ver, .slice pa iv.length pc] 25)) w.heap.size hard ver (.slice pa iv.length pc) iv from VarR.new hr)
  clear hrc hli hlv hr hs hz hb0
  go_enter Tryd.func8, Tryd.ntmps8
  go_wp2_with fail
  refine (HLI.out _ HB0.out).mono ?_
  rintro e w1 ⟨bb, rfl, hsm, hb1⟩
  have HB1 := Lib.hid (HB0.out.trans (hb1.mono HB0.out.size))
  have HV1 := Lib.hid (HV.out.below hb1)
  clear hb1 HB0 HV
  cases bb
  · clear hsm
    go_wp2_with fail
    refine (HLV.out _ HB1.out).mono ?_
    rintro e w4 ⟨rfl, hb4⟩
    go_wp2
    go_ret
    exact ⟨rfl, HB1.out.trans (hb4.mono HB1.out.size)⟩
  have HSM := Lib.hid (hsm rfl)
  clear hsm
  have HRH := Lib.hid (fun (s : ByteArray) (hs : s.size ≤ 100000) w' (hb : Below w1.heap.size w1 w') => (show Calls Tryd.prog 18 #[.agg #[.bool hard, .string ver, .slice pa iv.length pc], .string s] w' fun r w2 => r = .returned (.bool (hasB hard iv s)) ∧ Below w'.heap.size w' w2 from refHas_at hard ver _ iv s HSM.out hs w' (HR.out.below (HB1.out.trans (hb.mono HB1.out.size)) (Nat.le_refl _))))
  go_upto_block 0 with fail
  go_cut [5, 6, 7, 8] from 9 to 93 (fun v5 v6 v7 v8 wx => PickEnd w1 hard iv v5 v6 v7 v8 wx)
  case first =>
    go_wp2_with fail
    go_loopw [5, 6, 7, 8, 21] (fun v5 v6 v7 v8 i wr => PickRel w1 l hard iv v5 v6 v7 v8 i wr) (fun _ _ _ _ i _ => l.length - (intOf i).toNat)
    case atStart => exact ⟨0, _, _, rfl, rfl, by omega, by omega, by simp, rfl, rfl, rfl, own2_nil w1⟩
    case round =>
      obtain ⟨k, v5, v6, rfl, rfl, hk, hk60, hsz, rfl, rfl, rfl, hown⟩ := hrel
      have HB := Lib.hid (HB1.out.trans (hown.2.2.2.mono HB1.out.size))
      have HO := Lib.hid hown
      have HSZ := Lib.hid hsz
      clear hsz
      by_cases hlt : k < l.length
      · obtain ⟨s, hsk⟩ : ∃ s, l[k]? = some s := ⟨_, List.getElem?_eq_getElem hlt⟩
        obtain ⟨a, rfl, _, _, hc⟩ := HS.out.some (by omega)
        have hck := (HB.out.cell (World.block_lt_of_cell? w _ (hc k s hsk))).trans (hc k s hsk)
        have hzs := HZ.out s (List.mem_of_getElem? hsk)
        have hltI : (k : Int) < l.length := by omega
        have hkI : (k : Int) ≤ 60 := by omega
        have hzI : (s.size : Int) ≤ 9223372036854775807 := by omega
        by_cases h60 : k = 60
        · have HE := Lib.hid (show PickEnd w1 hard iv v5 v6 (.string (hiS (amongF hard iv (l.take k))).1) (.bool (hiS (amongF hard iv (l.take k))).2) wr from ⟨l.take k, v5, v6, rfl, rfl, by have := List.length_take_le k l; omega, HSZ.out, rfl, rfl, HO.out⟩)
          have hge : (60 : Int) ≤ k := by omega
          clear hown hc hsk h60
          go_wp2_with fail
          go_meet
          exact HE.out
        · have hnge : (k : Int) < 60 := by omega
          by_cases h100 : 100 < s.size
          · have HE := Lib.hid (show PickEnd w1 hard iv v5 v6 (.string (hiS (amongF hard iv (l.take k))).1) (.bool (hiS (amongF hard iv (l.take k))).2) wr from ⟨l.take k, v5, v6, rfl, rfl, by have := List.length_take_le k l; omega, HSZ.out, rfl, rfl, HO.out⟩)
            have hgt : (100 : Int) < s.size := by omega
            clear hown hc hsk h60
            go_wp2_with fail
            go_meet
            exact HE.out
          · have hngt : (s.size : Int) ≤ 100 := by omega
            have HT := Lib.hid (take_snoc _ k s hsk)
            have HQ1 := Lib.hid (among_snoc (hard := hard) (iv := iv) hsk)
            have HSZ2 := Lib.hid (show ∀ x ∈ l.take (k + 1), x.size ≤ 100 from fun x hx => by
              rw [HT.out] at hx
              rcases List.mem_append.1 hx with hx | hx
              · exact HSZ.out x hx
              · simp at hx; subst hx; omega)
            have hbs : (hiS (amongF hard iv (l.take k))).1.size ≤ 100 := hiS_small fun x hx => HSZ.out x (List.mem_filter.1 hx).1
            have HHS := Lib.hid (hiS_snoc (amongF hard iv (l.take k)) s)
            have HP := Lib.hid (show hiS (amongF hard iv (l.take k)) = ((hiS (amongF hard iv (l.take k))).1, (hiS (amongF hard iv (l.take k))).2) from rfl)
            have hql := among_len hard iv l k
            have hml := List.length_take_le k l
            generalize amongF hard iv (l.take k) = Q at HO HQ1 HHS HP hbs hql ⊢
            generalize l.take k = M at HO HT hml
            generalize (hiS Q).1 = bs at HHS HP hbs ⊢
            generalize (hiS Q).2 = fb at HHS HP ⊢
            obtain ⟨o1, o2, o3, o4⟩ := HO.out
            have hz4 := o4.size
            generalize hmn : M.length = mn at o1 hml
            generalize hms : M.map sV = ms at o1
            have HMN := Lib.hid hmn.symm
            have HMS := Lib.hid hms.symm
            clear hown hc hsk h60 h100 o2 o3 o4 hmn hms
            go_wp2_with (at_builtin
                         refine app1d rfl _ _ 42 9 rfl (.string ByteArray.empty) 16 w1.heap.size mn Tryd.underlying42 st_info rfl v5 _ rfl o1 rfl rfl (by omega) (by omega) hz4 ?_)
            intro v' w2 ho' hg' hb' hd'
            have HO1 := Lib.hid (HO.out.left HMN.out HMS.out ho' hg' hb' hd')
            clear ho' hg' hb' hd' o1 hck
            obtain ⟨c0, c1, c2⟩ := (HV1.out.below HO1.out.2.2.2).cells
            have hcall := HRH.out s (by omega) w2 HO1.out.2.2.2
            generalize hasB hard iv s = b at hcall HQ1
            have HCALL := Lib.hid hcall
            clear hcall
            go_wp2_with fail
            refine HCALL.out.mono ?_
            rintro e w3 ⟨rfl, hb3⟩
            have HO2 := Lib.hid (HO1.out.below hb3)
            clear hb3 c0 c1 c2
            cases b
            · have HQ2 := Lib.hid (show amongF hard iv (l.take (k + 1)) = Q by rw [HQ1.out]; simp)
              go_wp2
              go_roundw
              case rel => exact pick_step hlt (by omega) HSZ2.out HT.out HQ2.out HP.out HO2.out
              case measure => simp [intOf]; omega
            · have HQ2 := Lib.hid (show amongF hard iv (l.take (k + 1)) = Q ++ [s] by rw [HQ1.out]; simp)
              obtain ⟨o1, o2, o3, o4⟩ := HO2.out
              have hz5 := o4.size
              generalize hqn : Q.length = qn at o2 hql
              generalize hqs : Q.map sV = qs at o2
              have HQN := Lib.hid hqn.symm
              have HQS := Lib.hid hqs.symm
              clear o1 o3 o4 hqn hqs
              go_wp2_with (at_builtin
                           refine app1d rfl _ _ 42 9 rfl (.string ByteArray.empty) 16 w1.heap.size qn Tryd.underlying42 st_info rfl v6 _ rfl o2 rfl rfl (by omega) (by omega) hz5 ?_)
              intro v6' w4 ho' hg' hb' hd'
              have HO3 := Lib.hid (HO2.out.right HQN.out HQS.out ho' hg' hb' hd')
              clear ho' hg' hb' hd' o2
              cases fb
              · have HH := Lib.hid (show hiS (Q ++ [s]) = (s, true) by rw [HHS.out]; rfl)
                go_wp2
                go_roundw
                case rel => exact pick_step hlt (by omega) HSZ2.out HT.out HQ2.out HH.out HO3.out
                case measure => simp [intOf]; omega
              · have HCMP := Lib.hid (fun w => HRC.out s bs (by omega) (by omega) w)
                generalize cmpB s.data.toList bs.data.toList = y at HHS HCMP
                by_cases hy : 0 < y
                · have HH := Lib.hid (show hiS (Q ++ [s]) = (s, true) by rw [HHS.out, decide_eq_true hy]; rfl)
                  go_wp2_with fail
                  refine (HCMP.out _).mono ?_
                  rintro e w5 ⟨rfl, hb5⟩
                  have HO4 := Lib.hid (HO3.out.below hb5)
                  clear hb5
                  go_wp2
                  go_roundw
                  case rel => exact pick_step hlt (by omega) HSZ2.out HT.out HQ2.out HH.out HO4.out
                  case measure => simp [intOf]; omega
                · have HH := Lib.hid (show hiS (Q ++ [s]) = (bs, true) by rw [HHS.out, decide_eq_false hy]; rfl)
                  have hy' : y ≤ 0 := by omega
                  go_wp2_with fail
                  refine (HCMP.out _).mono ?_
                  rintro e w5 ⟨rfl, hb5⟩
                  have HO4 := Lib.hid (HO3.out.below hb5)
                  clear hb5
                  go_wp2
                  go_roundw
                  case rel => exact pick_step hlt (by omega) HSZ2.out HT.out HQ2.out HH.out HO4.out
                  case measure => simp [intOf]; omega
      · have hkl : k = l.length := by omega
        have hltI : (l.length : Int) ≤ k := by omega
        have HE := Lib.hid (show PickEnd w1 hard iv v5 v6 (.string (hiS (amongF hard iv (l.take k))).1) (.bool (hiS (amongF hard iv (l.take k))).2) wr from ⟨l.take k, v5, v6, rfl, rfl, by have := List.length_take_le k l; omega, HSZ.out, rfl, rfl, HO.out⟩)
        clear hown hkl
        go_wp2_with fail
        go_meet
        exact HE.out
  case rest =>
    obtain ⟨m, v5, v6, rfl, rfl, hm60, hsz, rfl, rfl, hown⟩ := hcut
    have HO := Lib.hid hown
    have HSZ := Lib.hid (show ∀ x ∈ m, x.size ≤ 100000 from fun x hx => by have := hsz x hx; omega)
    have HB := Lib.hid (HB1.out.trans (hown.2.2.2.mono HB1.out.size))
    obtain ⟨c0, c1, c2⟩ := (HV1.out.below hown.2.2.2).cells
    obtain ⟨oa, oc, rfl⟩ := (RdS.of_own hown.1).shape
    have HQL := Lib.hid (Nat.le_trans (List.length_filter_le (fun v => hasB hard iv v) m) hm60)
    have hqI : ((amongF hard iv m).length : Int) ≤ 60 := by have : (amongF hard iv m).length ≤ 60 := HQL.out; omega
    have HAM := Lib.hid (Among_any hard ver (.slice pa iv.length pc) iv (.slice oa m.length oc) m HSM.out HSZ.out (by omega) wc (HR.out.below HB.out (Nat.le_refl _)) (RdS.of_own hown.1))
    have HPK := Lib.hid (fun w' (hb : Below wc.heap.size wc w') => Pick_any hard ver (.slice pa iv.length pc) iv (.slice oa m.length oc) m HSM.out HSZ.out (by omega) w' (HR.out.below (HB.out.trans (hb.mono HB.out.size)) (Nat.le_refl _)) ((RdS.of_own hown.1).below hb (Nat.le_refl _)))
    clear hsz hown
    go_wp2_with fail
    refine HAM.out.mono ?_
    rintro e w2 ⟨v11, rfl, ho11, hb2⟩
    have HO2 := Lib.hid (HO.out.below hb2)
    have HG := Lib.hid ho11
    have HPK2 := Lib.hid (HPK.out w2 hb2)
    clear hb2 ho11 c0 c1 c2 HAM HPK
    obtain ⟨c0, c1, c2⟩ := (HV1.out.below HO2.out.2.2.2).cells
    go_wp2_with fail
    refine HPK2.out.mono ?_
    rintro e w3 ⟨rfl, hb3⟩
    have HO3 := Lib.hid (HO2.out.below hb3)
    have HG3 := Lib.hid ((RdS.of_own HG.out).below hb3 (Nat.le_refl _))
    have HW3 := Lib.hid (RdS.of_own HO3.out.2.1)
    clear hb3 c0 c1 c2 HPK2 HG HO2 HO
    have hpf : PickF hard iv m = hiS (amongF hard iv m) := rfl
    rw [hpf]
    clear hpf
    generalize amongF hard iv m = q at hqI HG3 HW3 HO3 ⊢
    obtain ⟨ga, gc, rfl⟩ := HG3.out.shape
    obtain ⟨wa, wc2, rfl⟩ := HW3.out.shape
    generalize (hiS q).1 = bs
    generalize (hiS q).2 = fb
    have hbeq : (bs.toList == bs.toList) = true := by simp
    have hfeq : (fb == fb) = true := by simp
    go_wp2_with fail
    have HB3 := Lib.hid (HB1.out.trans (HO3.out.2.2.2.mono HB1.out.size))
    clear hbeq hfeq HO3 HB
    go_loopw [80] (fun i wr => ∃ k : Nat, k ≤ q.length ∧ i = .int .i64 k ∧ Below w3.heap.size w3 wr) (fun i _ => q.length - (intOf i).toNat)
    case atStart => exact ⟨0, by omega, rfl, Below.refl _ _⟩
    case round =>
      obtain ⟨k, hk, rfl, hb⟩ := hrel
      have HBK := Lib.hid hb
      by_cases hlt : k < q.length
      · obtain ⟨s, hsk⟩ : ∃ s, q[k]? = some s := ⟨_, List.getElem?_eq_getElem hlt⟩
        obtain ⟨a1, rfl, _, _, h1⟩ := HG3.out.some (by omega)
        obtain ⟨a2, rfl, _, _, h2⟩ := HW3.out.some (by omega)
        have k1 := (hb.cell (World.block_lt_of_cell? w3 _ (h1 k s hsk))).trans (h1 k s hsk)
        have k2 := (hb.cell (World.block_lt_of_cell? w3 _ (h2 k s hsk))).trans (h2 k s hsk)
        have hltI : (k : Int) < q.length := by omega
        have hk0 : (0 : Int) ≤ k := by omega
        have hne : (s.toList != s.toList) = false := by simp
        clear h1 h2 hsk hb
        go_wp2_with fail
        go_quiet (fail)
        go_wp2
        go_roundw
        case rel => exact ⟨k + 1, by omega, by go_num, below_drewN' HBK.out _⟩
        case measure => simp [intOf]; omega
      · have hltI : (q.length : Int) ≤ k := by omega
        have HBZ := Lib.hid (HB3.out.trans (hb.mono HB3.out.size))
        clear hb
        go_wp2_with fail
        refine (HLV.out _ HBZ.out).mono ?_
        rintro e w4 ⟨rfl, hb4⟩
        go_wp2
        go_ret
        exact ⟨rfl, HBZ.out.trans (hb4.mono HBZ.out.size)⟩
end Go.Proofs.YtnghagikchffiaaDoor
