/-
  Layer 16: the walk of follows. Own work.
-/
import Derived.Test.YtmiiclhhenepiaaAd16
namespace Go.Proofs.Ytmiiclhhenepiaa
set_option linter.unusedVariables false
set_option linter.unusedSimpArgs false
open Go.RowKit Go.WideElems Go.MapKept

section
variable {L : List (List Nat)} {S S1 S2 S3 : St} {A : Nat → Prop}
/-- nothing more is taken, and no clause is false -/
theorem watched_no2 {T : Nat → Prop} (hc : ∀ n, T n → ¬ T (ng n)) (hw : ∀ d ∈ L, (∃ c, (∀ m, m ∈ d ↔ m ∈ c) ∧ Wp ng T T c) ∨ Sat1 T d) (hA : ∀ n, A n → T n) : ¬ Conf ng L A := by
  have key : ∀ d ∈ L, (∀ n ∈ d, (∀ m ∈ d, m ≠ n → T (ng m)) → T n) ∧ ∃ m ∈ d, ¬ T (ng m) := fun d hd => by
    obtain ⟨c, hm, hc2⟩ : ∃ c, (∀ m, m ∈ d ↔ m ∈ c) ∧ (Wp ng T T c ∨ Sat1 T c) := by
      rcases hw d hd with ⟨c, h1, h2⟩ | h
      · exact ⟨c, h1, .inl h2⟩
      · exact ⟨d, fun _ => Iff.rfl, .inr h⟩
    obtain ⟨h1, h2⟩ := watched_shut (L := [c]) (A := fun _ => False) hc (fun c' hc' => by rw [List.mem_singleton.1 hc']; exact hc2) (fun _ h => h.elim)
    refine ⟨fun n hn h => h1.2 c (by simp) n ((hm n).1 hn) (fun m hmc hne => h m ((hm m).2 hmc) hne), ?_⟩
    obtain ⟨m, h3, h4⟩ := h2 c (by simp)
    exact ⟨m, (hm m).2 h3, h4⟩
  exact no_conf (T := T) ⟨hA, fun c hcl n hn h => (key c hcl).1 n hn h⟩ hc fun c hcl => (key c hcl).2
/-- between: more is taken, for a time -/
structure Md (L : List (List Nat)) (S1 S3 : St) : Prop where
  safe : Safe S3 S3.wat
  sub : ∀ (n : Nat) c, S3.list[n]? = some c → ∃ d ∈ L, ∀ m, m ∈ d ↔ m ∈ c
  all : ∀ d ∈ L, (∃ (n : Nat) (c : List Nat), S3.list[n]? = some c ∧ ∀ m, m ∈ d ↔ m ∈ c) ∨ ∃ m ∈ d, m ∈ S1.trail
  wb : ∀ (n : Nat) c, S3.list[n]? = some c → Wp ng (fun x => x ∈ S1.trail) (fun x => x ∈ S1.trail) c
  pre : ∃ ext, S3.trail = S1.trail ++ ext
  vs : S3.vs = S1.vs
  broken : S3.broken = S1.broken
  len : S3.list.length = S1.list.length
theorem Md.rest (h : Md L S1 S3) (hr : Rest L S1) (hb : S1.broken = false) {T : Nat → Bool} (hT : ∀ y, T y = decide (y ∈ S1.trail)) : Rest L ({ S3 with tk := T, trail := S1.trail, head := S1.trail.length } : St) := by
  obtain ⟨hh, hl⟩ := hr.ok hb
  refine ⟨⟨hr.safe.tn, fun x hx => ?_, hT, Nat.le_refl _, h.safe.ln, h.safe.wt, h.safe.wn⟩, fun _ => ⟨rfl, ⟨hl.con, hl.der, h.sub, h.all, h.wb, fun _ h => h⟩⟩, fun e => ?_⟩
  · have := hr.safe.tr x hx
    show x < 2 * S3.vs.length
    rw [h.vs]; exact this
  · have e2 : S3.broken = true := e
    rw [h.broken, hb] at e2
    cases e2
/-- some literals of a clause are taken to be false -/
structure TI (L : List (List Nat)) (A : Nat → Prop) (S1 : St) (lits : List Nat) (j : Nat) (fd : Bool) (S2 : St) : Prop where
  safe : Safe S2 S2.wat
  pre : ∃ ext, S2.trail = S1.trail ++ ext
  mem : ∀ y, y ∈ S2.trail ↔ y ∈ S1.trail ∨ ∃ x ∈ lits.take j, y = ng x
  vs : S2.vs = S1.vs
  list : S2.list = S1.list
  wat : S2.wat = S1.wat
  head : S2.head = S1.head
  broken : S2.broken = S1.broken
  yes : fd = true → Conf ng L A
  no : fd = false → ∀ x ∈ S2.trail, ng x ∉ S2.trail
theorem TI.begin {lits : List Nat} (hr : Rest L S1) (hb : S1.broken = false) : TI L A S1 lits 0 false S1 :=
  ⟨hr.safe, ⟨[], by simp⟩, fun y => by simp, rfl, rfl, rfl, rfl, rfl, fun e => (by cases e), fun _ => (hr.ok hb).2.con⟩
theorem TI.next {lits : List Nat} {j x : Nat} {fd : Bool} (h : TI L A S1 lits j fd S2) (hr : Rest L S1) (hb : S1.broken = false) (hx : lits[j]? = some x) (hA : ∀ x ∈ lits, A (ng x)) (hv : x < 2 * S1.vs.length) : TI L A S1 lits (j + 1) (fd || S2.tk x) (takeS S2 (ng x)) := by
  obtain ⟨e1, e2, e3, e4, e5, ext, e6⟩ := take_same S2 (ng x)
  have hxm := List.mem_of_getElem? hx
  have htk : lits.take (j + 1) = lits.take j ++ [x] := by rw [List.take_add_one, hx]; rfl
  have hngx : ng x ≠ x := fun e => by unfold ng at e; split at e <;> omega
  refine ⟨by rw [e3]; exact h.safe.take (by rw [h.vs]; exact ng_lt hv), ?_, fun y => ?_, e1.trans h.vs, e2.trans h.list, e3.trans h.wat, e4.trans h.head, e5.trans h.broken, fun hf => ?_, fun hf => ?_⟩
  · obtain ⟨ext1, h1⟩ := h.pre
    exact ⟨ext1 ++ ext, by rw [e6, h1, List.append_assoc]⟩
  · rw [take_trail h.safe, h.mem, htk]
    constructor
    · rintro ((h1 | ⟨z, hz, rfl⟩) | rfl)
      · exact .inl h1
      · exact .inr ⟨z, List.mem_append_left _ hz, rfl⟩
      · exact .inr ⟨x, by simp, rfl⟩
    · rintro (h1 | ⟨z, hz, rfl⟩)
      · exact .inl (.inl h1)
      · rcases List.mem_append.1 hz with hz | hz
        · exact .inl (.inr ⟨z, hz, rfl⟩)
        · rw [List.mem_singleton.1 hz]; exact .inr rfl
  · cases hfd : fd with
    | true => exact h.yes hfd
    | false =>
      rw [hfd] at hf
      have hxT := h.safe.tkI.1 (by simpa using hf)
      refine .inl ⟨x, ?_, .base (hA x hxm)⟩
      rcases (h.mem x).1 hxT with h1 | ⟨z, hz, h1⟩
      · exact ((hr.ok hb).2.der x h1).mono (fun _ h => h) (fun _ h => h.elim)
      · rw [h1]; exact .base (hA z (List.mem_of_mem_take hz))
  · rw [Bool.or_eq_false_iff] at hf
    have hno := h.no hf.1
    have hxT := h.safe.tkN.1 hf.2
    intro y hy hy2
    rw [take_trail h.safe] at hy hy2
    rcases hy with hy | rfl <;> rcases hy2 with hy2 | hy2
    · exact hno y hy hy2
    · have : y = x := by rw [← ng_ng y, hy2, ng_ng]
      exact hxT (this ▸ hy)
    · rw [ng_ng] at hy2
      exact hxT hy2
    · rw [ng_ng] at hy2
      exact hngx hy2.symm
theorem TI.md {lits : List Nat} {j : Nat} {fd : Bool} (h : TI L A S1 lits j fd S2) (hr : Rest L S1) (hb : S1.broken = false) : Md L S1 S2 := by
  obtain ⟨hh, hl⟩ := hr.ok hb
  exact ⟨h.safe, by rw [h.list]; exact hl.sub, by rw [h.list]; exact hl.all, by rw [h.list]; exact hl.wb, h.pre, h.vs, h.broken, by rw [h.list]⟩
/-- ahead of goOn -/
theorem TI.go {lits : List Nat} {j : Nat} (h : TI L A S1 lits j false S2) (hr : Rest L S1) (hb : S1.broken = false) (hA : ∀ x ∈ lits, A (ng x)) :
    Lg L A (fun x => x ∈ S1.trail) (fun x => x ∈ S1.trail) S2 ∧ ∀ (n : Nat) c, S2.list[n]? = some c → Wp ng (fun x => x ∈ S2.trail.take S2.head) (fun x => x ∈ S2.trail) c := by
  obtain ⟨hh, hl⟩ := hr.ok hb
  have md := h.md hr hb
  obtain ⟨ext, he⟩ := h.pre
  have hsub : ∀ x, x ∈ S1.trail → x ∈ S2.trail := fun x hx => (h.mem x).2 (.inl hx)
  refine ⟨⟨h.no rfl, fun x hx => ?_, md.sub, md.all, md.wb, hsub⟩, fun n c hc => ?_⟩
  · rcases (h.mem x).1 hx with h1 | ⟨z, hz, rfl⟩
    · exact (hl.der x h1).mono (fun _ h => h) (fun _ h => h.elim)
    · exact .base (hA z (List.mem_of_mem_take hz))
  · have : S2.trail.take S2.head = S1.trail := by rw [h.head, hh, he]; simp
    rw [this]
    exact (md.wb n c hc).mono hsub
/-- .. behind it -/
theorem go_md {M M' : Mm} {n0 : Nat} {w w' : World} {b : Bool} (h : GoR L A (fun x => x ∈ S1.trail) (fun x => x ∈ S1.trail) M S2 n0 w b w' M' S3) (hm : Md L S1 S2) : Md L S1 S3 := by
  obtain ⟨e1, h1⟩ := h.pre
  obtain ⟨e2, h2⟩ := hm.pre
  exact ⟨h.safe, h.lg.sub, h.lg.all, h.lg.wb, ⟨e2 ++ e1, by rw [h1, h2, List.append_assoc]⟩, h.vs.trans hm.vs, h.broken.trans hm.broken, h.len.trans hm.len⟩
theorem go_no {M M' : Mm} {n0 : Nat} {w w' : World} {lits : List Nat} {j : Nat} (h : GoR L A (fun x => x ∈ S1.trail) (fun x => x ∈ S1.trail) M S2 n0 w true w' M' S3) (ht : TI L A S1 lits j false S2) (hA : ∀ y, A y → ∃ x ∈ lits.take j, y = ng x) : ¬ Conf ng L A := by
  obtain ⟨e1, h1⟩ := h.pre
  obtain ⟨hh, hw⟩ := h.yes rfl
  refine watched_no2 (T := fun x => x ∈ S3.trail) h.lg.con (fun d hd => ?_) (fun y hy => ?_)
  · rcases h.lg.all d hd with ⟨n, c, h2, h3⟩ | ⟨m, h2, h3⟩
    · exact .inl ⟨c, h3, hw n c h2⟩
    · exact .inr ⟨m, h2, h.lg.bt m h3⟩
  · show y ∈ S3.trail
    rw [h1]
    exact List.mem_append_left _ ((ht.mem y).2 (.inr (hA y hy)))
end
theorem own_take16 {w : World} {base : Nat} {e : TypeId} {a : Option Addr} {n c k : Nat} {xs : List Value} (h : w.ownsRow base e 1 (.slice a n c) n xs) (hk : k ≤ n) : w.ownsRow base e 1 (.slice a k c) k (xs.take k) := by
  refine ⟨by have := h.1; rw [List.length_take]; omega, ?_⟩
  rcases h.2 with ⟨e1, e2⟩ | ⟨g, cap, cur, e1, h1, h2, h3, h4, h5, h6⟩
  · cases e1
    exact .inl ⟨by rw [show k = 0 by omega], by omega⟩
  · cases e1
    refine .inr ⟨g, c, cur, rfl, h1, h2, by omega, h4, h5, ?_⟩
    rw [← h6, List.take_take, Nat.min_eq_left (by omega), Nat.mul_one]
theorem wpList_delS {ops : Array Oper} {rest : List Oper} {o : Oper} {a : Act} {Q : Exit → Act → World → Prop} {w : World} {b N v : Nat} {T : Nat → Bool} (hg : o.guard = none) (m x : Operand)
    (hop : o.op = Op.call { callee := Callee.builtin Builtin.delete, args := #[m, x], argTypes := #[49, 3] }) (hm : a.eval m = .map (some b)) (hs : SetM w b N T) (hx : a.eval x = .int .i64 (v : Int)) (hv : v ≤ 1000000)
    (hK : ∀ w', SetM w' b N (offT T v) → w.grownBy w' (some b) → wpList Try.prog ops Q rest (a.put o.dst (.tuple #[])) w') : wpList Try.prog ops Q (o :: rest) a w := by
  refine wpList_plain hg fun K' hK' => ?_
  obtain ⟨w', hrun, r1, r2⟩ := hs.drop hv o.type
  unfold Oper.wp
  simp [execOp, hop, resolve, invoke, builtin, hm, hx, hrun, Result.andThen]
  exact hK' _ _ (hK w' r1 r2)
theorem off_step16 {l : List Nat} {F i x : Nat} {T : Nat → Bool} {y : Nat} (hn : l.Nodup) (hx : l[F + i]? = some x) (hT : T y = decide (y ∈ l ∧ y ∉ (l.drop F).take i)) : offT T x y = decide (y ∈ l ∧ y ∉ (l.drop F).take (i + 1)) := by
  have h1 : (l.drop F).take (i + 1) = (l.drop F).take i ++ [x] := by
    rw [List.take_add_one, List.getElem?_drop, hx]
    rfl
  unfold offT
  rw [h1]
  by_cases e : x = y
  · rw [if_pos e]; simp [e]
  · rw [if_neg e, hT]
    have e' : ¬ y = x := fun h => e h.symm
    simp [e']
theorem off_all16 {l m ext : List Nat} (hn : l.Nodup) (he : l = m ++ ext) (y : Nat) : decide (y ∈ l ∧ y ∉ (l.drop m.length).take (l.length - m.length)) = decide (y ∈ m) := by
  subst he
  have h1 : (m ++ ext).drop m.length = ext := by simp
  rw [h1, List.take_of_length_le (by simp)]
  congr 1
  rw [List.nodup_append] at hn
  simp only [List.mem_append, eq_iff_iff]
  constructor
  · rintro ⟨h | h, h2⟩
    · exact h
    · exact absurd h h2
  · intro h
    exact ⟨.inl h, fun h2 => hn.2.2 y h y h2 rfl⟩
/-- what was taken for a time is given up again -/
def DW (n0 : Nat) (M3 : Mm) (S3 : St) (F : Nat) (wc : World) (i : Nat) (wr : World) : Prop :=
  ∃ T : Nat → Bool, KS wr n0 M3 { S3 with tk := T } noT ∧ Frm M3 M3 (fun t => t = .tak) wc wr ∧ ∀ y, T y = decide (y ∈ S3.trail ∧ y ∉ (S3.trail.drop F).take i)
structure FW (L : List (List Nat)) (A : Nat → Prop) (n0 : Nat) (M : Mm) (S1 : St) (lits : List Nat) (w1 : World) (j : Nat) (fd : Bool) (wr : World) (M2 : Mm) (S2 : St) : Prop where
  ks : KS wr n0 M2 S2 noT
  frm : Frm M M2 tkT w1 wr
  ti : TI L A S1 lits j fd S2
def FolA (vs : List Nat) (c : List Int) : Nat → Prop := fun x => ∃ n ∈ nz c, x = ng (cd (vsAll vs c) n)
def FolP (L : List (List Nat)) (c : List Int) (M : Mm) (S : St) (n0 : Nat) (w : World) (e : Ending) (w' : World) : Prop :=
  ∃ b M' S', e = .returned (.bool b) ∧ KS w' n0 M' S' noT ∧ Below n0 w w' ∧ Rest L S' ∧ (S'.vs = S.vs ∨ S'.vs = vsAll S.vs c) ∧ S'.list.length = S.list.length ∧ M'.K = M.K ∧ (b = true ↔ Conf ng L (FolA S.vs c))
set_option maxRecDepth 100000 in
set_option maxHeartbeats 4000000 in
theorem follows_any {L : List (List Nat)} {w : World} {n0 : Nat} {M : Mm} {S : St} (h : KS w n0 M S noT) (hr : Rest L S) (cvv : Value) (c : List Int) (hc : ∀ w', Below n0 w w' → Reads w' iV cvv c) (hf : ∀ n ∈ c, -9223372036854775808 ≤ n ∧ n ≤ 9223372036854775807)
    (hv : S.vs.length + c.length ≤ 100000) (hln : S.list.length ≤ 100000) :
    Calls Try.prog 22 #[.pointer (some ⟨M.K, 0, none⟩), cvv] w (FolP L c M S n0 w) := by
  have hnoT : ∀ t, ¬ noT t := fun t => id
  have hc6 : w.cell? ⟨M.K, 6, none⟩ = some (.bool S.broken) := h.cell (hnoT _) 6
  cases hbr : S.broken with
  | true =>
    rw [hbr] at hc6
    have HF := Lib.hid (show FolP L c M S n0 w (.returned (.bool true)) w from ⟨true, M, S, rfl, h, Below.refl _ _, hr, .inl rfl, rfl, rfl, ⟨fun _ => (hr.bad hbr).mono (fun _ h => h) (fun _ h => h.elim), fun _ => rfl⟩⟩)
    clear h hr hbr hc
    go_enter Try.func22, Try.ntmps22
    go_wp2
    go_ret
    exact HF.out
  | false =>
    rw [hbr] at hc6
    have HL := Lib.hid (literals_any h (hnoT _) (hnoT _) cvv c hc hf hv)
    have HB := Lib.hid h
    have hvl := vsAll_len S.vs c
    have HR := Lib.hid (hr.vs (vs := vsAll S.vs c) hvl.1)
    have HCM := Lib.hid (fun n hn => cd_lt (vsAll_mem c S.vs n hn))
    have HBR := Lib.hid hbr
    have hc4 : w.cell? ⟨M.K, 4, none⟩ = some M.vt := h.cell (hnoT _) 4
    obtain ⟨at0, ct0, hvt0⟩ : ∃ a c, M.vt = .slice a S.trail.length c := by
      rcases (h.trl (hnoT _)).2 with ⟨e, e0⟩ | ⟨g, c, cur, e, _⟩
      · exact ⟨none, 0, by rw [e, show S.trail.length = 0 from e0]⟩
      · exact ⟨_, _, e⟩
    rw [hvt0] at hc4
    clear h hc hr hbr hvt0
    go_enter Try.func22, Try.ntmps22
    go_wp2_with fail
    refine HL.out.mono ?_
    rintro e w1 ⟨lits, v, rfl, hk1, hf1, hli, ho1, hb1⟩
    obtain ⟨av, cc, rfl⟩ : ∃ a c, v = .slice a lits.length c := by
      rcases ho1.2 with ⟨e, e0⟩ | ⟨g, c, cur, e, _⟩
      · exact ⟨none, 0, by rw [e, e0]⟩
      · exact ⟨_, _, e⟩
    have HAL := Lib.hid (show ∀ x ∈ lits, FolA S.vs c (ng x) from fun x hx => by
      obtain ⟨n, hn, rfl⟩ := (hli.mem x).1 hx
      exact ⟨n, hn, rfl⟩)
    have HAR := Lib.hid (show ∀ y, FolA S.vs c y → ∃ x ∈ lits, y = ng x from fun y ⟨n, hn, hy⟩ => ⟨_, (hli.mem _).2 ⟨n, hn, rfl⟩, hy⟩)
    have HLT := Lib.hid (show ∀ x ∈ lits, x < 2 * (vsAll S.vs c).length from fun x hx => by
      obtain ⟨n, hn, rfl⟩ := (hli.mem x).1 hx
      exact HCM.out n hn)
    have hll : lits.length ≤ 100000 := by have := hli.len; omega
    have HBL := Lib.hid (hf1.below (by simp [numT]) HB.out)
    have hK1 := hf1.K
    have HV1 := Lib.hid (show ∀ b, (Value.slice av lits.length cc).ownBlock = some b → M.tag b = .free from fun b hb => HB.out.fresh b (hb1 b hb))
    have hvs1 : (vsAll S.vs c).length ≤ 100000 := by omega
    obtain ⟨S1, hS1⟩ : ∃ S1 : St, S1 = { S with vs := vsAll S.vs c } := ⟨_, rfl⟩
    have hv1 : S1.vs = vsAll S.vs c := by rw [hS1]
    have HL1 := Lib.hid (show S1.list.length = S.list.length by rw [hS1])
    have hbr1 : S1.broken = false := by rw [hS1]; exact HBR.out
    have htl1 : S.trail.length = S1.trail.length := by rw [hS1]
    rw [← hS1] at hk1 HR
    have HK1 := Lib.hid hk1
    have HO1 := Lib.hid ho1
    have HBR1 := Lib.hid hbr1
    have hlb : S1.list.length ≤ 100000 := by rw [HL1.out]; exact hln
    have HW := Lib.hid (show FW L (FolA S.vs c) n0 M S1 lits w1 0 false w1 M S1 from ⟨hk1, Frm.refl _ _ _, TI.begin HR.out hbr1⟩)
    have HTL := Lib.hid htl1
    rw [htl1]
    clear hS1 hk1 ho1 hli hf1 hb1 HL HCM hvl HBR hc6 hc4 hbr1 htl1
    go_wp2_with fail
    go_loopw [6, 24] (fun fv iv wr => ∃ j fd M2 S2, j ≤ lits.length ∧ iv = .int .i64 ((j : Nat) : Int) ∧ fv = .bool fd ∧ FW L (FolA S.vs c) n0 M S1 lits w1 j fd wr M2 S2) (fun _ iv _ => lits.length - (intOf iv).toNat)
    case atStart => exact ⟨0, false, M, S1, by omega, rfl, rfl, HW.out⟩
    case round =>
      obtain ⟨j, fd, M2, S2, hj, rfl, rfl, hw⟩ := hrel
      have HW2 := Lib.hid hw
      have hK2 := hw.frm.K
      clear hw HW
      by_cases hlt : j < lits.length
      · obtain ⟨x, hx⟩ : ∃ x, lits[j]? = some x := ⟨_, List.getElem?_eq_getElem hlt⟩
        have ho2 := HW2.out.frm.own HO1.out (fun b hb => by rw [HV1.out b hb]; simp [tkT])
        obtain ⟨gl, cl, hvv, hcl1, hcl2⟩ := own_form ho2 (by omega)
        cases hvv
        have hcx : wr.cell? ⟨gl, j, none⟩ = some (.int .i64 (x : Int)) := own_cell16 ho2 (map_get hx)
        have hjI : (j : Int) < (lits.length : Int) := by omega
        have hxl := HLT.out x (List.mem_of_getElem? hx)
        have hxor := xor16 (x := x) (by omega)
        have hng := ng_lt hxl
        have HTI := Lib.hid (HW2.out.ti.next HR.out HBR1.out hx HAL.out (by rw [hv1]; exact hxl))
        have hvs2 := HW2.out.ti.vs
        have htrl := HW2.out.ti.safe.trLen
        rw [hvs2, hv1] at htrl
        clear ho2 hx
        cases fd with
        | true =>
          have HTK := Lib.hid (take_any HW2.out.ks (hnoT _) (hnoT _) (hnoT _) (ng x) (by rw [hvs2, hv1]; exact hng) (by rw [hvs2, hv1]; exact hvs1) (by omega))
          rw [hK2] at HTK
          go_wp2_with fail
          refine HTK.out.mono ?_
          rintro e w3 ⟨rfl, M3, hk3, hf3, _, _, _⟩
          have HN := Lib.hid (show FW L (FolA S.vs c) n0 M S1 lits w1 (j + 1) true w3 M3 (takeS S2 (ng x)) from ⟨hk3, HW2.out.frm.trans hf3, HTI.out⟩)
          clear hk3 hf3 HTK HTI
          go_wp2_with fail
          exact ⟨⟨j + 1, true, M3, _, by omega, by go_num, rfl, HN.out⟩, by simp [intOf]; omega⟩
        | false =>
          have HT := Lib.hid (isTaken_any HW2.out.ks (hnoT _) (hnoT _) x (by omega))
          rw [hK2] at HT
          go_wp2_with fail
          refine HT.out.mono ?_
          rintro e w2 ⟨rfl, hg2⟩
          have HTK := Lib.hid (take_any (HW2.out.ks.keep0 hg2) (hnoT _) (hnoT _) (hnoT _) (ng x) (by rw [hvs2, hv1]; exact hng) (by rw [hvs2, hv1]; exact hvs1) (by omega))
          have HF2 := Lib.hid (HW2.out.frm.trans (Frm.of hg2 (ts := tkT) (fun b hb => by cases hb)))
          rw [hK2] at HTK
          generalize htk : S2.tk x = tk at HTI ⊢
          clear htk hg2 HT
          go_wp2_with fail
          refine HTK.out.mono ?_
          rintro e w3 ⟨rfl, M3, hk3, hf3, _, _, _⟩
          have HN := Lib.hid (show FW L (FolA S.vs c) n0 M S1 lits w1 (j + 1) tk w3 M3 (takeS S2 (ng x)) from ⟨hk3, HF2.out.trans hf3, by have := HTI.out; simpa using this⟩)
          clear hk3 hf3 HTK HTI
          go_wp2_with fail
          exact ⟨⟨j + 1, tk, M3, _, by omega, by go_num, rfl, HN.out⟩, by simp [intOf]; omega⟩
      · --END
        have hle : (lits.length : Int) ≤ (j : Int) := by omega
        have hjl : lits.take j = lits := List.take_of_length_le (by omega)
        have hvs2 := HW2.out.ti.vs
        have hmd := HW2.out.ti.md HR.out HBR1.out
        have HMD := Lib.hid hmd
        go_upto_region 11 with fail
        go_cut [6] from 11 (fun fv wx => ∃ fd M3 S3, fv = .bool fd ∧ KS wx n0 M3 S3 noT ∧ Frm M M3 fT w1 wx ∧ Md L S1 S3 ∧ (fd = true ↔ Conf ng L (FolA S.vs c)))
        case first =>
          have HF2 := Lib.hid (HW2.out.frm.mono (us := fT) (fun t ht => by rcases ht with rfl | rfl | rfl <;> simp [fT]))
          cases fd with
          | true =>
            go_wp2_with fail
            go_meet
            exact ⟨true, M2, S2, rfl, HW2.out.ks, HF2.out, HMD.out, ⟨fun _ => HW2.out.ti.yes rfl, fun _ => rfl⟩⟩
          | false =>
            obtain ⟨hlg, hwp⟩ := HW2.out.ti.go HR.out HBR1.out HAL.out
            have HGO := Lib.hid (goOn_any HW2.out.ks HW2.out.ti.safe hlg hwp (by rw [hvs2, hv1]; exact hvs1) (by rw [hmd.len]; omega))
            rw [hK2] at HGO
            clear hlg hwp hmd
            go_wp2_with fail
            refine HGO.out.mono ?_
            rintro e w3 ⟨b, M3, S3, rfl, hr3⟩
            have HR3 := Lib.hid hr3
            clear hr3 HGO
            cases b with
            | true =>
              have HNO := Lib.hid (go_no HR3.out HW2.out.ti (fun y hy => by rw [hjl]; exact HAR.out y hy))
              go_wp2_with fail
              go_meet
              exact ⟨false, M3, S3, rfl, HR3.out.ks, HF2.out.trans HR3.out.frm, go_md HR3.out HMD.out, ⟨fun h => (by cases h), fun h => absurd h HNO.out⟩⟩
            | false =>
              go_wp2_with fail
              go_meet
              exact ⟨true, M3, S3, rfl, HR3.out.ks, HF2.out.trans HR3.out.frm, go_md HR3.out HMD.out, ⟨fun _ => HR3.out.no rfl, fun _ => rfl⟩⟩
        case rest =>
          obtain ⟨fd, M3, S3, rfl, hk3, hf3, hm3, hfd⟩ := hcut
          have HK3 := Lib.hid hk3
          have HM3 := Lib.hid hm3
          have HFD := Lib.hid hfd
          have hK3 : M3.K = M.K := hf3.K
          have HB3 := Lib.hid (HBL.out.trans (hf3.below (by simp [fT]) HK1.out))
          have hvs3 := hm3.vs
          have hll3 := hm3.len
          obtain ⟨ext, hext⟩ := hm3.pre
          have hFN : S1.trail.length ≤ S3.trail.length := by rw [hext]; simp
          have HEXT := Lib.hid hext
          have htr3 := hk3.trl (hnoT _)
          have hc4 : wc.cell? ⟨M.K, 4, none⟩ = some M3.vt := by rw [← hK3]; exact hk3.cell (hnoT _) 4
          have hn3 : S3.trail.length ≤ 1000000 := by
            have := hm3.safe.trLen
            rw [hvs3, hv1] at this
            omega
          have HW3 := Lib.hid (show DW n0 M3 S3 S1.trail.length wc 0 wc from ⟨S3.tk, hk3, Frm.refl _ _ _, fun y => by rw [hm3.safe.tk]; simp⟩)
          clear hk3 hf3 hm3 hfd hext HW2 HMD hmd hjl hvs2
          rcases htr3.2 with ⟨hvt, h0⟩ | ⟨gt, ct, cur, hvt, _, _, hct1, hct2, _⟩
          · have hN0 : S3.trail.length = 0 := h0
            have hF0 : S1.trail.length = 0 := by omega
            rw [hvt] at hc4
            rw [hF0]
            go_wp2_with fail
            go_loopw [52] (fun iv wr => ∃ i : Nat, iv = .int .i64 (i : Int) ∧ i ≤ S3.trail.length - S1.trail.length ∧ DW n0 M3 S3 S1.trail.length wc i wr) (fun iv _ => S3.trail.length - S1.trail.length - (intOf iv).toNat)
            case atStart => exact ⟨0, rfl, by omega, HW3.out⟩
            case round =>
              obtain ⟨i, rfl, hi, hdw⟩ := hrel
              obtain ⟨T, hkT, hfT, hT⟩ := hdw
              have HKT := Lib.hid hkT
              have HFT := Lib.hid hfT
              have HT := Lib.hid hT
              clear hkT hfT hT HW3
              · have hie : i = S3.trail.length - S1.trail.length := by omega
                have hi0 : i = 0 := by omega
                subst hi0
                have hileI : ((S3.trail.length - S1.trail.length : Nat) : Int) ≤ ((0 : Nat) : Int) := by omega
                have HTAKE := Lib.hid (show (S3.trail.map cv).take S1.trail.length = S1.trail.map cv from by rw [HEXT.out, List.map_append, List.take_left' (by simp)])
                have hk5 := HKT.out.trail (tr := S1.trail) (v' := .slice none 0 0) (hnoT _) (by have h1 := World.ownsRow_nil wr n0 3 1; rw [show S1.trail = [] from List.eq_nil_of_length_eq_zero hF0]; exact h1) (fun b hb => by cases hb)
                have hnt : ∀ t, ¬ noTg noT .trl t := fun t h => h.1
                have hk6 := hk5.head (hnt _) S1.trail.length
                have hc4b : wr.cell? ⟨M.K, 4, none⟩ = some (.slice none 0 0) := by rw [← hK3, ← hvt]; exact HKT.out.cell (hnoT _) 4
                have hf4b : wr.frozen? ⟨M.K, 4, none⟩ = false := by rw [← hK3]; exact HKT.out.froz (hnoT _) 4
                have hc5b : (wr.setCell ⟨M.K, 4, none⟩ (.slice none 0 0)).cell? ⟨M.K, 5, none⟩ = some (.int .i64 (S3.head : Int)) := by rw [← hK3]; exact hk5.cell (hnt _) 5
                have hf5b : (wr.setCell ⟨M.K, 4, none⟩ (.slice none 0 0)).frozen? ⟨M.K, 5, none⟩ = false := by rw [← hK3]; exact hk5.froz (hnt _) 5
                have hBT := HB3.out.trans (HFT.out.below (by simp) HK3.out)
                have hKlo : n0 ≤ M.K := by rw [← hK3]; exact (HK3.out.lt (b := M3.K) (by rw [HK3.out.tK]; simp)).1
                have HF := Lib.hid (show FolP L c M S n0 w (.returned (.bool fd)) ((wr.setCell ⟨M.K, 4, none⟩ (.slice none 0 0)).setCell ⟨M.K, 5, none⟩ (.int .i64 (S1.trail.length : Int))) from
                  ⟨fd, { M3 with vt := .slice none 0 0 }, { S3 with tk := T, trail := S1.trail, head := S1.trail.length }, rfl, by rw [← hK3]; exact hk6.less (fun t ht => ht.1), (hBT.setCell (p := ⟨M.K, 4, none⟩) hKlo _).setCell (p := ⟨M.K, 5, none⟩) hKlo _,
                    HM3.out.rest HR.out HBR1.out (fun y => by rw [HT.out y, hie]; exact off_all16 HM3.out.safe.tn HEXT.out y), .inr (hvs3.trans hv1), hll3.trans HL1.out, hK3, HFD.out⟩)
                rw [hF0] at HF
                clear hileI hi hFN h0 hN0 htr3 hF0 hie
                clear hk5 hk6 hBT hnt HFD
                go_wp2
                go_ret
                exact HF.out
          · have hvt2 : M3.vt = .slice (some ⟨gt, 0, none⟩) S3.trail.length ct := hvt
            have hct3 : S3.trail.length ≤ ct := hct1
            rw [hvt2] at hc4 htr3
            have HT3 := Lib.hid htr3
            have hctI : (S3.trail.length : Int) ≤ (ct : Int) := by omega
            have hctJ : (ct : Int) ≤ 9223372036854775807 := by unfold maxLen at hct2; omega
            have hFI : (S1.trail.length : Int) ≤ (S3.trail.length : Int) := by omega
            have hFI2 : (S1.trail.length : Int) ≤ (ct : Int) := by omega
            obtain ⟨ad0, hif, had⟩ : ∃ ad0 : Addr, (if ct = S1.trail.length then some (⟨gt, 0, none⟩ : Addr) else some ⟨gt, S1.trail.length, none⟩) = some ad0 ∧ (S1.trail.length < S3.trail.length → ad0 = ⟨gt, S1.trail.length, none⟩) := by
              by_cases e : ct = S1.trail.length
              · exact ⟨_, if_pos e, fun h => by omega⟩
              · exact ⟨_, if_neg e, fun _ => rfl⟩
            have HAD := Lib.hid had
            have HTP := Lib.hid (own_take16 htr3 hFN)
            clear had htr3 hvt hct1
            go_wp2_with fail
            go_loopw [52] (fun iv wr => ∃ i : Nat, iv = .int .i64 (i : Int) ∧ i ≤ S3.trail.length - S1.trail.length ∧ DW n0 M3 S3 S1.trail.length wc i wr) (fun iv _ => S3.trail.length - S1.trail.length - (intOf iv).toNat)
            case atStart => exact ⟨0, rfl, by omega, HW3.out⟩
            case round =>
              obtain ⟨i, rfl, hi, hdw⟩ := hrel
              obtain ⟨T, hkT, hfT, hT⟩ := hdw
              have HKT := Lib.hid hkT
              have HFT := Lib.hid hfT
              have HT := Lib.hid hT
              clear hkT hfT hT HW3
              by_cases hil : i < S3.trail.length - S1.trail.length
              · obtain ⟨x, hx⟩ : ∃ x, S3.trail[S1.trail.length + i]? = some x := ⟨_, List.getElem?_eq_getElem (by omega)⟩
                have hilI : (i : Int) < ((S3.trail.length - S1.trail.length : Nat) : Int) := by omega
                have hcx : wr.cell? (ad0.add i) = some (.int .i64 (x : Int)) := by
                  rw [HAD.out (by omega)]
                  have e : (⟨gt, S1.trail.length, none⟩ : Addr).add i = ⟨gt, S1.trail.length + i, none⟩ := by unfold Addr.add; split <;> simp_all
                  rw [e]
                  have h1 := HKT.out.trl (hnoT _)
                  rw [hvt2] at h1
                  exact own_cell16 h1 (map_get hx)
                have hxl := HM3.out.safe.tr x (List.mem_of_getElem? hx)
                rw [hvs3, hv1] at hxl
                have hcT : wr.cell? ⟨M.K, 1, none⟩ = some (.map (some M3.bT)) := by rw [← hK3]; exact HKT.out.cell (hnoT _) 1
                have hsT := HKT.out.tak (hnoT _)
                have HX := Lib.hid hx
                clear hx
                go_wp2_with (refine wpList_delS rfl _ _ rfl rfl hsT rfl (by omega) ?_)
                intro w4 hs4 hg4
                have HN := Lib.hid (show DW n0 M3 S3 S1.trail.length wc (i + 1) w4 from by
                  have hk4 := HKT.out.keep (ex' := orT noT .tak) hg4 (fun t _ hx => hx.elim .inl (fun ⟨b, hb, ht⟩ => .inr (by rw [← ht, ← Option.some.inj hb]; exact HKT.out.tT)))
                  refine ⟨offT T x, (hk4.fillTak (by rw [show ({ S3 with tk := T } : St).vs = vsAll S.vs c from hvs3.trans hv1]; exact hs4)).less (fun t ht => ht.1.elim id (fun e => absurd e ht.2)), HFT.out.trans (Frm.of hg4 (fun b hb => by rw [← Option.some.inj hb]; exact HKT.out.tT)), fun y => ?_⟩
                  exact off_step16 HM3.out.safe.tn HX.out (HT.out y))
                clear hs4 hg4 hsT hcT hcx
                go_wp2_with fail
                exact ⟨⟨i + 1, by go_num, by omega, HN.out⟩, by simp [intOf]; omega⟩
              · have hie : i = S3.trail.length - S1.trail.length := by omega
                have hileI : ((S3.trail.length - S1.trail.length : Nat) : Int) ≤ (i : Int) := by omega
                have HTAKE := Lib.hid (show (S3.trail.map cv).take S1.trail.length = S1.trail.map cv from by rw [HEXT.out, List.map_append, List.take_left' (by simp)])
                have hk5 := HKT.out.trail (tr := S1.trail) (v' := .slice (some ⟨gt, 0, none⟩) S1.trail.length ct) (hnoT _) (by have h1 := HFT.out.own HTP.out (fun b hb => by cases hb; rw [HK3.out.tt gt (by rw [hvt2]; rfl)]; simp); rw [HTAKE.out] at h1; exact h1) (fun b hb => by cases hb; exact HKT.out.tt gt (by rw [hvt2]; rfl))
                have hnt : ∀ t, ¬ noTg noT .trl t := fun t h => h.1
                have hk6 := hk5.head (hnt _) S1.trail.length
                have hc4b : wr.cell? ⟨M.K, 4, none⟩ = some (.slice (some ⟨gt, 0, none⟩) S3.trail.length ct) := by rw [← hK3, ← hvt2]; exact HKT.out.cell (hnoT _) 4
                have hf4b : wr.frozen? ⟨M.K, 4, none⟩ = false := by rw [← hK3]; exact HKT.out.froz (hnoT _) 4
                have hc5b : (wr.setCell ⟨M.K, 4, none⟩ (.slice (some ⟨gt, 0, none⟩) S1.trail.length ct)).cell? ⟨M.K, 5, none⟩ = some (.int .i64 (S3.head : Int)) := by rw [← hK3]; exact hk5.cell (hnt _) 5
                have hf5b : (wr.setCell ⟨M.K, 4, none⟩ (.slice (some ⟨gt, 0, none⟩) S1.trail.length ct)).frozen? ⟨M.K, 5, none⟩ = false := by rw [← hK3]; exact hk5.froz (hnt _) 5
                have hBT := HB3.out.trans (HFT.out.below (by simp) HK3.out)
                have hKlo : n0 ≤ M.K := by rw [← hK3]; exact (HK3.out.lt (b := M3.K) (by rw [HK3.out.tK]; simp)).1
                have HF := Lib.hid (show FolP L c M S n0 w (.returned (.bool fd)) ((wr.setCell ⟨M.K, 4, none⟩ (.slice (some ⟨gt, 0, none⟩) S1.trail.length ct)).setCell ⟨M.K, 5, none⟩ (.int .i64 (S1.trail.length : Int))) from
                  ⟨fd, { M3 with vt := .slice (some ⟨gt, 0, none⟩) S1.trail.length ct }, { S3 with tk := T, trail := S1.trail, head := S1.trail.length }, rfl, by rw [← hK3]; exact hk6.less (fun t ht => ht.1), (hBT.setCell (p := ⟨M.K, 4, none⟩) hKlo _).setCell (p := ⟨M.K, 5, none⟩) hKlo _,
                    HM3.out.rest HR.out HBR1.out (fun y => by rw [HT.out y, hie]; exact off_all16 HM3.out.safe.tn HEXT.out y), .inr (hvs3.trans hv1), hll3.trans HL1.out, hK3, HFD.out⟩)
                clear hk5 hk6 hBT hnt HFD
                go_wp2
                go_ret
                exact HF.out
end Go.Proofs.Ytmiiclhhenepiaa
