/-
  Layer 25: the contract of light, over edits. Own work.
-/
import Derived.Test.YtoibanffaebllaaOpen25
namespace Go.Proofs.Ytoibanffaebllaa
set_option linter.unusedVariables false
set_option linter.unusedSimpArgs false
open Go.RowKit

def lightE (p : Ed) : Prop := p.key.g.size + p.key.a.size + p.key.t.size + p.key.c.size ≤ 1000 ∧ p.old.g.size + p.old.a.size + p.old.t.size + p.old.c.size ≤ 1000 ∧ p.new.g.size + p.new.a.size + p.new.t.size + p.new.c.size ≤ 1000 ∧ p.old.v.size + p.new.v.size ≤ 1000
def lightEs (l : List Ed) : Prop := l.length ≤ 60 ∧ ∀ p ∈ l, lightE p
def LightEP (l : List Ed) (w : World) (e : Ending) (w' : World) : Prop := ∃ b : Bool, e = .returned (.bool b) ∧ (b = true → lightEs l) ∧ Below w.heap.size w w'
set_option maxRecDepth 100000 in
set_option maxHeartbeats 8000000 in
theorem LightE_any (v1 : Value) (l : List Ed) (hok : ∀ p ∈ l, okEd p) (w : World) (hr : RdE w v1 l) :
    Calls Try.prog 14 #[v1] w (LightEP l w) := by
  have hlI : (l.length : Int) ≤ 9223372036854775807 := by
    rcases hr with ⟨_, rfl⟩ | ⟨a, cap, _, h1, h2, _⟩
    · simp
    · omega
  obtain ⟨pa, pc, rfl⟩ := hr.shape
  have HR := Lib.hid hr
  have HOK := Lib.hid hok
  clear hr hok
  go_enter Try.func14, Try.ntmps14
  by_cases h60 : l.length ≤ 60
  case neg =>
    have h60I : (60 : Int) < l.length := by omega
    go_wp2
    go_ret
    exact ⟨false, rfl, fun h => (by cases h), Below.refl _ _⟩
  have h60I : (l.length : Int) ≤ 60 := by omega
  go_wp2_with fail
  go_loopw [12] (fun i wr => ∃ k : Nat, k ≤ l.length ∧ i = .int .i64 k ∧ (∀ j p, j < k → l[j]? = some p → lightE p) ∧ Below w.heap.size w wr) (fun i _ => l.length - (intOf i).toNat)
  case atStart => exact ⟨0, by omega, rfl, fun j p hj => by omega, Below.refl _ _⟩
  case round =>
    obtain ⟨k, hk, rfl, hall, hb⟩ := hrel
    have HALL := Lib.hid hall
    have HB := Lib.hid hb
    clear hall
    obtain ⟨I, hI⟩ : ∃ I : Int, I = (k : Int) := ⟨_, rfl⟩
    have hIt : I.toNat = k := by omega
    have hI0 : (0 : Int) ≤ I := by omega
    have HI := Lib.hid hI
    rw [← hI]
    by_cases hlt : k < l.length
    · obtain ⟨p, hp⟩ : ∃ p, l[k]? = some p := ⟨_, List.getElem?_eq_getElem hlt⟩
      obtain ⟨b1, rfl, _, _, _, hc1⟩ := HR.out.elem hp
      have h1 := RdE.atR hc1 hp hb (Nat.le_refl _)
      rw [← hIt] at h1
      have H1 := Lib.hid h1
      have hltI : I < l.length := by omega
      have HOP := Lib.hid (HOK.out p (List.mem_of_getElem? hp))
      have HP := Lib.hid hp
      have hedin := EdIn.new wr p
      have hb1 := hb.alloc hb.size (.cells #[.string p.key.g, .string p.key.a, .string p.key.t, .string p.key.c, .bool p.had, .bool p.has, .string p.old.g, .string p.old.a, .string p.old.t, .string p.old.c, .string p.old.v, .int .i64 p.old.sc, .string p.new.g, .string p.new.a, .string p.new.t, .string p.new.c, .string p.new.v, .int .i64 p.new.sc] 50)
      clear hc1 hp hb h1 hI hIt
      go_upto_region 6 with (first
        | (refine wpList_load_ed rfl _ rfl _ rfl p H1.out ?_)
        | (refine wpList_store_ed rfl _ _ rfl _ rfl rfl p rfl ?_))
      generalize wr.alloc (.cells #[.string p.key.g, .string p.key.a, .string p.key.t, .string p.key.c, .bool p.had, .bool p.has, .string p.old.g, .string p.old.a, .string p.old.t, .string p.old.c, .string p.old.v, .int .i64 p.old.sc, .string p.new.g, .string p.new.a, .string p.new.t, .string p.new.c, .string p.new.v, .int .i64 p.new.sc] 50) = w1 at hedin hb1 ⊢
      generalize wr.heap.size = V at hedin ⊢
      have HED := Lib.hid hedin
      have HB1 := Lib.hid hb1
      obtain ⟨y0, y1, y2, y3, y4, y5, y6, y7, y8, y9, y10, y11, y12, y13, y14, y15, y16, y17⟩ := hedin
      clear hb1
      go_wp2_with fail
      have hrow : (w1.alloc (.cells #[.string p.key.g, .string p.key.a, .string p.key.t, .string p.key.c, .string p.old.g, .string p.old.a, .string p.old.t, .string p.old.c, .string p.new.g, .string p.new.a, .string p.new.t, .string p.new.c] 46)).heap[w1.heap.size]? = some (.cells #[.string p.key.g, .string p.key.a, .string p.key.t, .string p.key.c, .string p.old.g, .string p.old.a, .string p.old.t, .string p.old.c, .string p.new.g, .string p.new.a, .string p.new.t, .string p.new.c] 46 (0, 0)) := heap_alloc_new w1 _
      have hb12 : Below w1.heap.size w1 (w1.alloc (.cells #[.string p.key.g, .string p.key.a, .string p.key.t, .string p.key.c, .string p.old.g, .string p.old.a, .string p.old.t, .string p.old.c, .string p.new.g, .string p.new.a, .string p.new.t, .string p.new.c] 46)) := (Below.refl _ _).alloc (Nat.le_refl _) _
      have HROW := Lib.hid hrow
      have HB12 := Lib.hid hb12
      clear hrow hb12 y0 y1 y2 y3 y4 y5 y6 y7 y8 y9 y10 y11 y12 y13 y14 y15 y16 y17
      generalize w1.alloc (.cells #[.string p.key.g, .string p.key.a, .string p.key.t, .string p.key.c, .string p.old.g, .string p.old.a, .string p.old.t, .string p.old.c, .string p.new.g, .string p.new.a, .string p.new.t, .string p.new.c] 46) = w2 at HROW HB12 ⊢
      generalize w1.heap.size = D at HROW ⊢
      go_loopw [26] (fun i wr => (i = .int .i64 0 ∨ (i = .int .i64 1 ∧ p.key.g.size + p.key.a.size + p.key.t.size + p.key.c.size ≤ 1000) ∨ (i = .int .i64 2 ∧ p.key.g.size + p.key.a.size + p.key.t.size + p.key.c.size ≤ 1000 ∧ p.old.g.size + p.old.a.size + p.old.t.size + p.old.c.size ≤ 1000) ∨ (i = .int .i64 3 ∧ p.key.g.size + p.key.a.size + p.key.t.size + p.key.c.size ≤ 1000 ∧ p.old.g.size + p.old.a.size + p.old.t.size + p.old.c.size ≤ 1000 ∧ p.new.g.size + p.new.a.size + p.new.t.size + p.new.c.size ≤ 1000)) ∧ Below w2.heap.size w2 wr) (fun i _ => 3 - (intOf i).toNat)
      case atStart => exact ⟨.inl rfl, Below.refl _ _⟩
      case round =>
        obtain ⟨hi, hb2⟩ := hrel
        have HB2 := Lib.hid hb2
        have hrw := (hb2.block D (Array.getElem?_eq_some_iff.1 HROW.out).1).trans HROW.out
        have HBW := Lib.hid (HB1.out.trans ((HB12.out.trans (hb2.mono HB12.out.size)).mono HB1.out.size))
        have hcl : ∀ j, wr.cell? ⟨D, j, none⟩ = #[.string p.key.g, .string p.key.a, .string p.key.t, .string p.key.c, .string p.old.g, .string p.old.a, .string p.old.t, .string p.old.c, .string p.new.g, .string p.new.a, .string p.new.t, .string p.new.c][j]? := fun j => cell_of_row wr D j _ _ (0, 0) hrw
        clear hrw hb2
        obtain ⟨⟨z0, z1, z2, z3⟩, ⟨o0, o1, o2, o3, o4, _, _⟩, ⟨n0, n1, n2, n3, n4, _, _⟩⟩ := HOP.out
        unfold okR at z0 z1 z2 z3 o0 o1 o2 o3 o4 n0 n1 n2 n3 n4
        rcases hi with rfl | ⟨rfl, hA⟩ | ⟨rfl, hA, hB⟩ | ⟨rfl, hA, hB, hC⟩
        · have d0 : wr.cell? ⟨D, 0, none⟩ = some (.string p.key.g) := hcl 0
          have d1 : wr.cell? ⟨D, 1, none⟩ = some (.string p.key.a) := hcl 1
          have d2 : wr.cell? ⟨D, 2, none⟩ = some (.string p.key.t) := hcl 2
          have d3 : wr.cell? ⟨D, 3, none⟩ = some (.string p.key.c) := hcl 3
          clear hcl o0 o1 o2 o3 o4 n0 n1 n2 n3 n4
          have HBA := Lib.hid (show Below w2.heap.size w2 (wr.alloc (.cells #[.string p.key.g, .string p.key.a, .string p.key.t, .string p.key.c] 46)) from HB2.out.alloc HB2.out.size _)
          have HBB := Lib.hid (show Below w.heap.size w (wr.alloc (.cells #[.string p.key.g, .string p.key.a, .string p.key.t, .string p.key.c] 46)) from HBW.out.alloc HBW.out.size _)
          by_cases hs : p.key.g.size + p.key.a.size + p.key.t.size + p.key.c.size ≤ 1000
          · have hQ : (p.key.g.size : Int) + p.key.a.size + p.key.t.size + p.key.c.size ≤ 1000 := by omega
            go_wp2
            all_goals first
              | (exfalso; omega)
              | skip
            go_roundw
            case rel => exact ⟨.inr (.inl ⟨rfl, hs⟩), HBA.out⟩
            case measure => simp [intOf]
          · have hQ : 1000 < (p.key.g.size : Int) + p.key.a.size + p.key.t.size + p.key.c.size := by omega
            go_wp2
            all_goals first
              | (exfalso; omega)
              | (go_ret
                 exact ⟨false, rfl, fun h => (by cases h), HBB.out⟩)
        · have d0 : wr.cell? ⟨D, 4, none⟩ = some (.string p.old.g) := hcl 4
          have d1 : wr.cell? ⟨D, 5, none⟩ = some (.string p.old.a) := hcl 5
          have d2 : wr.cell? ⟨D, 6, none⟩ = some (.string p.old.t) := hcl 6
          have d3 : wr.cell? ⟨D, 7, none⟩ = some (.string p.old.c) := hcl 7
          clear hcl z0 z1 z2 z3 o4 n0 n1 n2 n3 n4
          have HBA := Lib.hid (show Below w2.heap.size w2 (wr.alloc (.cells #[.string p.old.g, .string p.old.a, .string p.old.t, .string p.old.c] 46)) from HB2.out.alloc HB2.out.size _)
          have HBB := Lib.hid (show Below w.heap.size w (wr.alloc (.cells #[.string p.old.g, .string p.old.a, .string p.old.t, .string p.old.c] 46)) from HBW.out.alloc HBW.out.size _)
          have HAHA := Lib.hid hA
          clear hA
          by_cases hs : p.old.g.size + p.old.a.size + p.old.t.size + p.old.c.size ≤ 1000
          · have hQ : (p.old.g.size : Int) + p.old.a.size + p.old.t.size + p.old.c.size ≤ 1000 := by omega
            go_wp2
            all_goals first
              | (exfalso; omega)
              | skip
            go_roundw
            case rel => exact ⟨.inr (.inr (.inl ⟨rfl, HAHA.out, hs⟩)), HBA.out⟩
            case measure => simp [intOf]
          · have hQ : 1000 < (p.old.g.size : Int) + p.old.a.size + p.old.t.size + p.old.c.size := by omega
            go_wp2
            all_goals first
              | (exfalso; omega)
              | (go_ret
                 exact ⟨false, rfl, fun h => (by cases h), HBB.out⟩)
        · have d0 : wr.cell? ⟨D, 8, none⟩ = some (.string p.new.g) := hcl 8
          have d1 : wr.cell? ⟨D, 9, none⟩ = some (.string p.new.a) := hcl 9
          have d2 : wr.cell? ⟨D, 10, none⟩ = some (.string p.new.t) := hcl 10
          have d3 : wr.cell? ⟨D, 11, none⟩ = some (.string p.new.c) := hcl 11
          clear hcl z0 z1 z2 z3 o0 o1 o2 o3 o4 n4
          have HBA := Lib.hid (show Below w2.heap.size w2 (wr.alloc (.cells #[.string p.new.g, .string p.new.a, .string p.new.t, .string p.new.c] 46)) from HB2.out.alloc HB2.out.size _)
          have HBB := Lib.hid (show Below w.heap.size w (wr.alloc (.cells #[.string p.new.g, .string p.new.a, .string p.new.t, .string p.new.c] 46)) from HBW.out.alloc HBW.out.size _)
          have HAHA := Lib.hid hA
          have HBHB := Lib.hid hB
          clear hA hB
          by_cases hs : p.new.g.size + p.new.a.size + p.new.t.size + p.new.c.size ≤ 1000
          · have hQ : (p.new.g.size : Int) + p.new.a.size + p.new.t.size + p.new.c.size ≤ 1000 := by omega
            go_wp2
            all_goals first
              | (exfalso; omega)
              | skip
            go_roundw
            case rel => exact ⟨.inr (.inr (.inr ⟨rfl, HAHA.out, HBHB.out, hs⟩)), HBA.out⟩
            case measure => simp [intOf]
          · have hQ : 1000 < (p.new.g.size : Int) + p.new.a.size + p.new.t.size + p.new.c.size := by omega
            go_wp2
            all_goals first
              | (exfalso; omega)
              | (go_ret
                 exact ⟨false, rfl, fun h => (by cases h), HBB.out⟩)
        · clear hcl z0 z1 z2 z3 o0 o1 o2 o3 n0 n1 n2 n3
          obtain ⟨_, _, _, _, _, _, _, _, _, _, y10, _, _, _, _, _, y16, _⟩ := HED.out.below (HB12.out.trans (HB2.out.mono HB12.out.size)) (Nat.le_refl _)
          have HK3 := Lib.hid (And.intro hA (And.intro hB hC))
          clear hA hB hC
          by_cases hs : p.old.v.size + p.new.v.size ≤ 1000
          · have hQ : (p.old.v.size : Int) + p.new.v.size ≤ 1000 := by omega
            go_wp2
            all_goals first
              | (exfalso; omega)
              | skip
            go_roundw
            case rel =>
              refine ⟨k + 1, by omega, by rw [HI.out]; go_num, fun j q hj hq => ?_, HBW.out⟩
              by_cases hjk : j = k
              · subst hjk
                have := HP.out.symm.trans hq
                cases this
                exact ⟨HK3.out.1, HK3.out.2.1, HK3.out.2.2, hs⟩
              · exact HALL.out j q (by omega) hq
            case measure => rw [HI.out]; simp [intOf]; omega
          · have hQ : 1000 < (p.old.v.size : Int) + p.new.v.size := by omega
            go_wp2
            all_goals first
              | (exfalso; omega)
              | (go_ret
                 exact ⟨false, rfl, fun h => (by cases h), HBW.out⟩)
    · have hlt' : (l.length : Int) ≤ I := by have := HI.out; omega
      have HF := Lib.hid (show lightEs l from ⟨h60, fun p hp => by
        obtain ⟨i, hi⟩ := List.getElem?_of_mem hp
        exact HALL.out i p (by have := (List.getElem?_eq_some_iff.1 hi).1; omega) hi⟩)
      clear hb hI hIt
      go_wp2
      go_ret
      exact ⟨true, rfl, fun _ => HF.out, HB.out⟩
end Go.Proofs.Ytoibanffaebllaa
