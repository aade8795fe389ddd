/-
  Layer 24: the contract of the document's answer Parse. Own work.
-/
import Derived.Test.YtcmojpfolmcaoaaDoorRefPin24
import Derived.Test.YtcmojpfolmcaoaaDoorParse24
import Derived.Test.YtcmojpfolmcaoaaDoorNum24
namespace Go.Proofs.YtcmojpfolmcaoaaDoor
set_option linter.unusedVariables false
set_option linter.unusedSimpArgs false
open Go.RowKit

/-- the lock in block O holds what was read so far -/
def LK (w : World) (O : Nat) (st : St) (pv : Value) : Prop :=
  w.heap[O]? = some (.cells #[.string st.rg, .string st.ra, .string st.rv, pv] 26 (0, 0)) ∧ w.ownsRow (O + 1) 42 6 pv st.pins.length (rowN st.pins)
theorem LK.lt {w : World} {X : Nat} {st : St} {pv : Value} (h : LK w X st pv) : X < w.heap.size := (Array.getElem?_eq_some_iff.1 h.1).1
theorem LK.cells {w : World} {X : Nat} {st : St} {pv : Value} (h : LK w X st pv) :
    w.cell? ⟨X, 0, none⟩ = some (.string st.rg) ∧ w.cell? ⟨X, 1, none⟩ = some (.string st.ra) ∧ w.cell? ⟨X, 2, none⟩ = some (.string st.rv) ∧ w.cell? ⟨X, 3, none⟩ = some pv := by
  refine ⟨?_, ?_, ?_, ?_⟩
  · rw [cell_of_row w X 0 _ _ (0, 0) h.1]; rfl
  · rw [cell_of_row w X 1 _ _ (0, 0) h.1]; rfl
  · rw [cell_of_row w X 2 _ _ (0, 0) h.1]; rfl
  · rw [cell_of_row w X 3 _ _ (0, 0) h.1]; rfl
theorem LK.frozen {w : World} {X : Nat} {st : St} {pv : Value} (h : LK w X st pv) (o : Nat) : w.frozen? ⟨X, o, none⟩ = false := frozen_of_row w X o _ _ h.1
theorem LK.below {w w' : World} {X : Nat} {st : St} {pv : Value} (h : LK w X st pv) (hb : Below w.heap.size w w') : LK w' X st pv :=
  ⟨(hb.block X h.lt).trans h.1, h.2.kept (below_grown hb none) (by cases pv.ownBlock <;> simp)⟩
theorem LK.set3 {w : World} {X : Nat} {st : St} {pv : Value} (h : LK w X st pv) (g a v : ByteArray) :
    LK (((w.setCell ⟨X, 0, none⟩ (.string g)).setCell ⟨X, 1, none⟩ (.string a)).setCell ⟨X, 2, none⟩ (.string v)) X ⟨g, a, v, st.pins, st.ended⟩ pv := by
  have g1 := heap_setCell_same w X 0 _ _ (.string g) h.1
  have g2 := heap_setCell_same _ X 1 _ _ (.string a) g1
  have g3 := heap_setCell_same _ X 2 _ _ (.string v) g2
  refine ⟨by simpa using g3, ?_⟩
  exact ownsRow_setCell_below (ownsRow_setCell_below (ownsRow_setCell_below h.2 (a := ⟨X, 0, none⟩) (by simp) _) (a := ⟨X, 1, none⟩) (by simp) _) (a := ⟨X, 2, none⟩) (by simp) _
theorem LK.push {w0 w' : World} {X : Nat} {st : St} {pv v' : Value} {p : Pn} (h : LK w0 X st pv) (ho : w'.ownsRow (X + 1) 42 6 v' (st.pins.length + 1) (rowN st.pins ++ pnCells p)) (hg : w0.grownBy w' pv.ownBlock) :
    LK (w'.setCell ⟨X, 3, none⟩ v') X ⟨st.rg, st.ra, st.rv, st.pins ++ [p], st.ended⟩ v' := by
  have hx : w'.heap[X]? = some (.cells #[.string st.rg, .string st.ra, .string st.rv, pv] 26 (0, 0)) :=
    (hg.block X h.lt (fun e => by have := (h.2.lt X e.symm).1; omega)).trans h.1
  have g1 := heap_setCell_same w' X 3 _ _ v' hx
  refine ⟨by simpa using g1, ?_⟩
  have := ownsRow_setCell_below ho (a := ⟨X, 3, none⟩) (by simp) v'
  simp only [List.length_append, List.length_cons, List.length_nil, rowN_snoc]
  exact this
theorem LK.slice {w : World} {X : Nat} {st : St} {pv : Value} (h : LK w X st pv) : ∃ a c, pv = .slice a st.pins.length c := by
  rcases h.2.2 with ⟨h, h0⟩ | ⟨g, cap, cur, h, _⟩
  · exact ⟨none, 0, by rw [h, h0]⟩
  · exact ⟨_, _, h⟩
theorem LK.grown {w0 w' : World} {X : Nat} {st : St} {pv : Value} (h : LK w0 X st pv) (hg : w0.grownBy w' pv.ownBlock) : Below X w0 w' :=
  (Below.refl X w0).grown hg (Nat.le_of_lt h.lt) (fun k hk => by have := (h.2.lt k hk).1; omega)
theorem LK.new (w : World) : LK (w.alloc (.cells #[.string ⟨#[]⟩, .string ⟨#[]⟩, .string ⟨#[]⟩, .slice none 0 0] 26)) w.heap.size st0 (.slice none 0 0) := ⟨heap_alloc_new w _, World.ownsRow_nil _ _ _ _⟩
def LZ (w : World) (B : Nat) : Prop := w.heap[B]? = some (.cells #[.string ⟨#[]⟩, .string ⟨#[]⟩, .string ⟨#[]⟩, .slice none 0 0] 26 (0, 0))
theorem LZ.below {w w' : World} {B C : Nat} (h : LZ w B) (hb : Below C w w') (hB : B < C) : LZ w' B := (hb.block B hB).trans h
theorem LZ.cells {w : World} {X : Nat} (h : LZ w X) :
    w.cell? ⟨X, 0, none⟩ = some (.string ⟨#[]⟩) ∧ w.cell? ⟨X, 1, none⟩ = some (.string ⟨#[]⟩) ∧ w.cell? ⟨X, 2, none⟩ = some (.string ⟨#[]⟩) ∧ w.cell? ⟨X, 3, none⟩ = some (.slice none 0 0) := by
  refine ⟨?_, ?_, ?_, ?_⟩
  · rw [cell_of_row w X 0 _ _ (0, 0) h]; rfl
  · rw [cell_of_row w X 1 _ _ (0, 0) h]; rfl
  · rw [cell_of_row w X 2 _ _ (0, 0) h]; rfl
  · rw [cell_of_row w X 3 _ _ (0, 0) h]; rfl
theorem LZ.frozen {w : World} {X : Nat} (h : LZ w X) (o : Nat) : w.frozen? ⟨X, o, none⟩ = false := frozen_of_row w X o _ _ h
theorem LZ.set {w : World} {B O : Nat} (h : LZ w B) (hB : B < O) (o : Nat) (u : Value) : LZ (w.setCell ⟨O, o, none⟩ u) B :=
  (heap_setCell_other w ⟨O, o, none⟩ B u (fun e => by simp only at e; omega)).trans h
theorem refparse_results (tmps : Array Value) (w : World) (R : Nat) (y0 y1 y2 y3 n : Value) (h2 : tmps.getD 2 undef = .pointer (some ⟨R, 0, none⟩)) (h3 : tmps.getD 3 undef = n)
    (hR : w.heap[R]? = some (.cells #[y0, y1, y2, y3] 26 (0, 0))) :
    (results Tryd.f16 tmps).run Tryd.prog w = .ok (.tuple #[.agg #[y0, y1, y2, y3], n]) w := by
  have h2' : tmps[2]?.getD undef = .pointer (some ⟨R, 0, none⟩) := by simpa using h2
  have h3' : tmps[3]?.getD undef = n := by simpa using h3
  have l1 := run_loadVar_row w R 26 26 #[y0, y1, y2, y3] (0, 0) _ hR Tryd.underlying26 rfl (by kernel_rfl)
  simp [results, Tryd.results16, h2', h3', asAddr, l1]
/-- what the answer's Parse gives -/
def RefParseP (s : List UInt8) (w : World) (e : Ending) (w' : World) : Prop :=
  (∃ st pv, parseL s = .inr st ∧ e = .returned (.tuple #[lockV st.rg st.ra st.rv pv, .int .i64 0]) ∧ RdN w' pv st.pins ∧ Below w.heap.size w w') ∨
  (∃ n : Nat, parseL s = .inl n ∧ 1 ≤ n ∧ e = .returned (.tuple #[lockV ⟨#[]⟩ ⟨#[]⟩ ⟨#[]⟩ (.slice none 0 0), .int .i64 n]) ∧ Below w.heap.size w w')
/-- what the loop keeps -/
def RLoop (s : List UInt8) (w wL : World) (L : List (List UInt8)) (iv : Value) (wr : World) : Prop :=
  ∃ (i : Nat) (st : St) (pv : Value), iv = .int .i64 i ∧ i ≤ L.length ∧ goM (i + 1) (L.drop i) st = parseL s ∧ st.ended = false ∧ okS st ∧ LK wr wL.heap.size st pv ∧ LZ wr w.heap.size ∧ Below wL.heap.size wL wr
theorem rloop_start {s : List UInt8} {w wL : World} (hz : LZ wL w.heap.size) : RLoop s w wL (pcd 10 s) (.int .i64 0) (wL.alloc (.cells #[.string ⟨#[]⟩, .string ⟨#[]⟩, .string ⟨#[]⟩, .slice none 0 0] 26)) := by
  have hb : Below wL.heap.size wL (wL.alloc (.cells #[.string ⟨#[]⟩, .string ⟨#[]⟩, .string ⟨#[]⟩, .slice none 0 0] 26)) := (Below.refl _ _).alloc (Nat.le_refl _) _
  exact ⟨0, st0, _, rfl, Nat.zero_le _, rfl, rfl, ⟨by simp [st0], by simp [st0]⟩, LK.new wL, hz.below hb (Array.getElem?_eq_some_iff.1 hz).1, hb⟩
set_option maxRecDepth 100000 in
set_option maxHeartbeats 8000000 in
theorem refParse_any (s : ByteArray) (hs : s.size ≤ 3000) (w : World) (hT : Tb w) :
    Calls Tryd.prog 16 #[.string s] w (RefParseP s.data.toList w) := by
  have HLN := Lib.hid (fun w => Lines_any s hs w)
  have HT := Lib.hid hT
  have HZ0 := Lib.hid (show LZ (w.alloc (.cells #[.string ⟨#[]⟩, .string ⟨#[]⟩, .string ⟨#[]⟩, .slice none 0 0] 26)) w.heap.size from heap_alloc_new w _)
  have HB0 := Lib.hid (show Below w.heap.size w (w.alloc (.cells #[.string ⟨#[]⟩, .string ⟨#[]⟩, .string ⟨#[]⟩, .slice none 0 0] 26)) from (Below.refl w.heap.size w).alloc (Nat.le_refl _) _)
  have hsl0 : s.data.toList.length = s.size := by simp
  have hLl := pcd_len_le' (d := 10) s.data.toList
  have hLp := pcd_len_le (d := 10) s.data.toList
  have hLn := pcd_ne (d := 10) s.data.toList
  clear hT
  go_enter Tryd.func16, Tryd.ntmps16
  go_upto_region 1 with fail
  generalize w.alloc (.cells #[.string ⟨#[]⟩, .string ⟨#[]⟩, .string ⟨#[]⟩, .slice none 0 0] 26) = w0 at HZ0 HB0 ⊢
  go_wp2_with fail
  refine (HLN.out _).mono ?_
  rintro e wL ⟨lv, rfl, hsl, hb1⟩
  have HZL := Lib.hid (HZ0.out.below hb1 (Array.getElem?_eq_some_iff.1 HZ0.out).1)
  have HBL := Lib.hid (HB0.out.trans (hb1.mono HB0.out.size))
  have hWL : w.heap.size < wL.heap.size := (Array.getElem?_eq_some_iff.1 HZL.out).1
  obtain ⟨b, off, cap, rfl, c1, c2, c3, c4⟩ := hsl.cellsS hLn
  have HCL := Lib.hid c4
  have HST := Lib.hid (rloop_start (s := s.data.toList) HZL.out)
  clear hb1 hsl c4
  generalize hL : pcd 10 s.data.toList = L at HST HCL c1 hLl hLp hLn ⊢
  have HLL := Lib.hid hL
  have HLP := Lib.hid hLp
  clear hL hLp
  go_upto_region 3 with fail
  generalize wL.alloc (.cells #[.string ⟨#[]⟩, .string ⟨#[]⟩, .string ⟨#[]⟩, .slice none 0 0] 26) = wO at HST ⊢
  have hLI : (L.length : Int) ≤ 3001 := by omega
  have hLI0 : (1 : Int) ≤ L.length := by have := List.length_pos_iff.2 hLn; omega
  go_wp2_with fail
  go_loopw [17] (fun iv wr => RLoop s.data.toList w wL L iv wr) (fun iv _ => L.length - (intOf iv).toNat)
  case atStart => exact HST.out
  case round =>
    obtain ⟨i, st, pv, rfl, hi, hgo, hen, hok, hlk, hz, hbw⟩ := hrel
    have HGO := Lib.hid hgo
    have HEN := Lib.hid hen
    have HOK := Lib.hid hok
    have HLK := Lib.hid hlk
    have HZ := Lib.hid hz
    have HBW := Lib.hid hbw
    have HBX := Lib.hid (HBL.out.trans (hbw.mono HBL.out.size))
    clear hgo hen hok
    have f0 := hz.frozen 0
    have f1 := hz.frozen 1
    have f2 := hz.frozen 2
    have f3 := hz.frozen 3
    obtain ⟨r0, r1, r2, r3⟩ := hz.cells
    obtain ⟨pa, pc, rfl⟩ := hlk.slice
    obtain ⟨o0, o1, o2, o3⟩ := hlk.cells
    clear hz hlk
    by_cases hlt : i < L.length
    · obtain ⟨t, ht⟩ : ∃ t, L[i]? = some t := ⟨_, List.getElem?_eq_getElem hlt⟩
      have htl : t.length ≤ 3000 := by have := HLP.out t (List.mem_of_getElem? ht); omega
      have hdr : L.drop i = t :: L.drop (i + 1) := by
        rw [List.drop_eq_getElem_cons hlt]
        congr 1
        exact (List.getElem_eq_iff hlt).2 ht
      have hc : wr.cell? ⟨b, off + i, none⟩ = some (.string (str t)) := below_cell hbw (p := ⟨b, off + i, none⟩) c3 (HCL.out i t ht)
      have HG1 := Lib.hid (show goM (i + 1) (t :: L.drop (i + 1)) st = parseL s.data.toList by rw [← hdr]; exact HGO.out)
      have hltI : (i : Int) < L.length := by omega
      have hi0 : (0 : Int) ≤ i := by omega
      clear hbw ht hdr
      by_cases hlast : i + 1 = L.length
      · have hlb : ((i : Int) == (L.length : Int) - 1) = true := beq_iff_eq.2 (by omega)
        have hR : L.drop (i + 1) = [] := List.drop_eq_nil_of_le (by omega)
        rw [hR] at HG1
        by_cases hte : t = []
        · subst hte
          have he : ((str ([] : List UInt8)).toList == []) = true := str_is rfl
          have HF := Lib.hid (show parseL s.data.toList = .inl (i + 1) by rw [← HG1.out, go_void HEN.out])
          go_wp2
          refine bodyPost_ret (refparse_results _ _ w.heap.size _ _ _ _ _ rfl rfl (row_set4 _ _ _ _ HZ.out)) rfl ?_
          exact .inr ⟨i + 1, HF.out, by omega, by push_cast; rfl, below_set4 HBX.out _ _ _ _⟩
        · have het := str_isnt hte
          have HH0 := Lib.hid (show L.drop (i + 1) = [] → t ≠ [] from fun _ => hte)
          rw [← hR] at HG1
          clear hte hR
          by_cases hi0 : i = 0
          · have hb0 : ((i : Int) == 0) = true := beq_iff_eq.2 (by omega)
            by_cases hw : t = wFirst
            · have hwb := str_is hw
              unfold wFirst at hwb
              have HF := Lib.hid (show goM (i + 1 + 1) (L.drop (i + 1)) st = parseL s.data.toList by rw [← HG1.out]; subst hi0; exact (go_on HH0.out (by rw [take_firstR, if_pos hw])).symm)
              clear hw hi0
              go_wp2_with fail
              go_roundw
              case rel => exact ⟨i + 1, st, _, by go_num, by omega, HF.out, HEN.out, HOK.out, HLK.out, HZ.out, HBW.out⟩
              case measure => simp [intOf]; omega
            · have hwb := str_isnt hw
              unfold wFirst at hwb
              have HF := Lib.hid (show parseL s.data.toList = .inl 1 by rw [← HG1.out]; subst hi0; exact go_bad HH0.out (by rw [take_firstR, if_neg hw]))
              clear hw hi0
              go_wp2
              refine bodyPost_ret (refparse_results _ _ w.heap.size _ _ _ _ _ rfl rfl (row_set4 _ _ _ _ HZ.out)) rfl ?_
              exact .inr ⟨1, HF.out, by omega, by first | rfl | (push_cast; rfl), below_set4 HBX.out _ _ _ _⟩
          have hb0 : ((i : Int) == 0) = false := beq_false_of_ne (by omega)
          by_cases hi1 : i = 1
          · have hb1 : ((i : Int) == 1) = true := beq_iff_eq.2 (by omega)
            have htk : (str t).size ≤ 3000 := by rw [size_str]; exact htl
            have HPC := Lib.hid (fun w => Pieces_any (str t) htk w)
            by_cases k3 : (pcd 58 t).length = 3
            case neg =>
              have hl3 := ne3 k3
              have HF := Lib.hid (show parseL s.data.toList = .inl 2 by rw [← HG1.out]; subst hi1; exact go_bad HH0.out (by rw [root_step HEN.out]; unfold rootR; match h : pcd 58 t, k3 with | [], _ => rfl | [_], _ => rfl | [_, _], _ => rfl | _ :: _ :: _ :: _ :: _, _ => rfl))
              clear hi0 hi1 k3
              go_wp2_with fail
              refine (HPC.out _).mono ?_
              rintro e w2 ⟨kv, rfl, hsk, hb2⟩
              obtain ⟨sa, kcap, rfl, hl1, hl2, -⟩ := hsk
              rw [str_data] at hl1
              have HZ2 := Lib.hid (HZ.out.below hb2 (by have := (Array.getElem?_eq_some_iff.1 HZ.out).1; exact this))
              have HLK2 := Lib.hid (HLK.out.below hb2)
              have HBW2 := Lib.hid (HBW.out.trans (hb2.mono HBW.out.size))
              have HBX2 := Lib.hid (HBX.out.trans (hb2.mono HBX.out.size))
              clear f0 f1 f2 f3 r0 r1 r2 r3 o0 o1 o2 o3 hc hb2
              have f0 := HZ2.out.frozen 0
              have f1 := HZ2.out.frozen 1
              have f2 := HZ2.out.frozen 2
              have f3 := HZ2.out.frozen 3
              obtain ⟨r0, r1, r2, r3⟩ := HZ2.out.cells
              have g0 := HLK2.out.frozen 0
              have g1 := HLK2.out.frozen 1
              have g2 := HLK2.out.frozen 2
              have g3 := HLK2.out.frozen 3
              obtain ⟨o0, o1, o2, o3⟩ := HLK2.out.cells
              try rw [str_data]
              go_wp2
              refine bodyPost_ret (refparse_results _ _ w.heap.size _ _ _ _ _ rfl rfl (row_set4 _ _ _ _ HZ2.out)) rfl ?_
              exact .inr ⟨2, HF.out, by omega, by first | rfl | (push_cast; rfl), below_set4 HBX2.out _ _ _ _⟩
            obtain ⟨x, a, v, hp⟩ : ∃ x a v, pcd 58 t = [x, a, v] := by
              match pcd 58 t, k3 with
              | [x, a, v], _ => exact ⟨x, a, v, rfl⟩
            have hpl := pcd_len_le (d := 58) t
            rw [hp] at hpl
            have hxl := hpl x (by simp)
            have hal := hpl a (by simp)
            have hvl := hpl v (by simp)
            clear hpl k3
            by_cases k5 : x.length < 5
            · have hk5 : ((str x).size : Int) < 5 := by rw [size_str]; omega
              have HF := Lib.hid (show parseL s.data.toList = .inl 2 by rw [← HG1.out]; subst hi1; exact go_bad HH0.out (by rw [root_step HEN.out]; unfold rootR; rw [hp]; simp only; rw [if_neg (fun h => by have := congrArg List.length h; simp [wRoot] at this; omega)]))
              clear hi0 hi1
              have HP := Lib.hid hp
              clear hp
              go_wp2_with fail
              refine (HPC.out _).mono ?_
              rintro e w2 ⟨kv, rfl, hsk, hb2⟩
              rw [str_data, HP.out] at hsk
              obtain ⟨kb, ko, kcap, rfl, d1, d2, d3, k0, k1, k2⟩ := hsk.three
              clear hsk
              have HZ2 := Lib.hid (HZ.out.below hb2 (by have := (Array.getElem?_eq_some_iff.1 HZ.out).1; exact this))
              have HLK2 := Lib.hid (HLK.out.below hb2)
              have HBW2 := Lib.hid (HBW.out.trans (hb2.mono HBW.out.size))
              have HBX2 := Lib.hid (HBX.out.trans (hb2.mono HBX.out.size))
              clear f0 f1 f2 f3 r0 r1 r2 r3 o0 o1 o2 o3 hc hb2
              have f0 := HZ2.out.frozen 0
              have f1 := HZ2.out.frozen 1
              have f2 := HZ2.out.frozen 2
              have f3 := HZ2.out.frozen 3
              obtain ⟨r0, r1, r2, r3⟩ := HZ2.out.cells
              have g0 := HLK2.out.frozen 0
              have g1 := HLK2.out.frozen 1
              have g2 := HLK2.out.frozen 2
              have g3 := HLK2.out.frozen 3
              obtain ⟨o0, o1, o2, o3⟩ := HLK2.out.cells
              go_wp2
              refine bodyPost_ret (refparse_results _ _ w.heap.size _ _ _ _ _ rfl rfl (row_set4 _ _ _ _ HZ2.out)) rfl ?_
              exact .inr ⟨2, HF.out, by omega, by first | rfl | (push_cast; rfl), below_set4 HBX2.out _ _ _ _⟩
            have hk5 : ¬ ((str x).size : Int) < 5 := by rw [size_str]; omega
            have hk5s : 5 ≤ (str x).size := by rw [size_str]; omega
            have hk5I : (5 : Int) ≤ (str x).size := by omega
            by_cases kw : x.take 5 = wRoot ++ [32]
            case neg =>
              have hx5 : (((str x).extract 0 5).toList == [114, 111, 111, 116, 32]) = false := by rw [ext_str, str_data]; exact str_isnt (by simpa [wRoot] using kw)
              have HF := Lib.hid (show parseL s.data.toList = .inl 2 by rw [← HG1.out]; subst hi1; exact go_bad HH0.out (by rw [root_step HEN.out]; unfold rootR; rw [hp]; simp only; rw [if_neg kw]))
              clear hi0 hi1 kw
              have HP := Lib.hid hp
              clear hp
              go_wp2_with fail
              refine (HPC.out _).mono ?_
              rintro e w2 ⟨kv, rfl, hsk, hb2⟩
              rw [str_data, HP.out] at hsk
              obtain ⟨kb, ko, kcap, rfl, d1, d2, d3, k0, k1, k2⟩ := hsk.three
              clear hsk
              have HZ2 := Lib.hid (HZ.out.below hb2 (by have := (Array.getElem?_eq_some_iff.1 HZ.out).1; exact this))
              have HLK2 := Lib.hid (HLK.out.below hb2)
              have HBW2 := Lib.hid (HBW.out.trans (hb2.mono HBW.out.size))
              have HBX2 := Lib.hid (HBX.out.trans (hb2.mono HBX.out.size))
              clear f0 f1 f2 f3 r0 r1 r2 r3 o0 o1 o2 o3 hc hb2
              have f0 := HZ2.out.frozen 0
              have f1 := HZ2.out.frozen 1
              have f2 := HZ2.out.frozen 2
              have f3 := HZ2.out.frozen 3
              obtain ⟨r0, r1, r2, r3⟩ := HZ2.out.cells
              have g0 := HLK2.out.frozen 0
              have g1 := HLK2.out.frozen 1
              have g2 := HLK2.out.frozen 2
              have g3 := HLK2.out.frozen 3
              obtain ⟨o0, o1, o2, o3⟩ := HLK2.out.cells
              go_wp2
              refine bodyPost_ret (refparse_results _ _ w.heap.size _ _ _ _ _ rfl rfl (row_set4 _ _ _ _ HZ2.out)) rfl ?_
              exact .inr ⟨2, HF.out, by omega, by first | rfl | (push_cast; rfl), below_set4 HBX2.out _ _ _ _⟩
            have hx5 : (((str x).extract 0 5).toList == [114, 111, 111, 116, 32]) = true := by rw [ext_str, str_data]; exact str_is (by simpa [wRoot] using kw)
            have hx6 : (str x).extract 5 (str x).size = str (x.drop 5) := by rw [ext_str, str_data, size_str, List.take_length]
            have HRR := Lib.hid (show takeM 2 t st = if mayGav (str (x.drop 5)) (str a) (str v) = true then some ⟨str (x.drop 5), str a, str v, st.pins, st.ended⟩ else none by rw [root_step HEN.out]; unfold rootR; rw [hp]; simp only; rw [if_pos kw])
            have HMG := Lib.hid (fun w => refMayGav_any (str (x.drop 5)) (str a) (str v) (by rw [size_str, List.length_drop]; omega) (by rw [size_str]; omega) (by rw [size_str]; omega) w)
            have HI1 := Lib.hid hi1
            clear kw hi0 hi1
            unfold gavV at HMG
            generalize mayGav (str (x.drop 5)) (str a) (str v) = m at HMG HRR
            have HP := Lib.hid hp
            clear hp
            go_wp2_with fail
            refine (HPC.out _).mono ?_
            rintro e w2 ⟨kv, rfl, hsk, hb2⟩
            rw [str_data, HP.out] at hsk
            obtain ⟨kb, ko, kcap, rfl, d1, d2, d3, k0, k1, k2⟩ := hsk.three
            clear hsk
            have HZ2 := Lib.hid (HZ.out.below hb2 (by have := (Array.getElem?_eq_some_iff.1 HZ.out).1; exact this))
            have HLK2 := Lib.hid (HLK.out.below hb2)
            have HBW2 := Lib.hid (HBW.out.trans (hb2.mono HBW.out.size))
            have HBX2 := Lib.hid (HBX.out.trans (hb2.mono HBX.out.size))
            clear f0 f1 f2 f3 r0 r1 r2 r3 o0 o1 o2 o3 hc hb2
            have f0 := HZ2.out.frozen 0
            have f1 := HZ2.out.frozen 1
            have f2 := HZ2.out.frozen 2
            have f3 := HZ2.out.frozen 3
            obtain ⟨r0, r1, r2, r3⟩ := HZ2.out.cells
            have g0 := HLK2.out.frozen 0
            have g1 := HLK2.out.frozen 1
            have g2 := HLK2.out.frozen 2
            have g3 := HLK2.out.frozen 3
            obtain ⟨o0, o1, o2, o3⟩ := HLK2.out.cells
            go_upto_region 16 with fail
            go_region
            have HLK4 := Lib.hid (show LK (((w2.setCell ⟨wL.heap.size, 0, none⟩ (.string (str (x.drop 5)))).setCell ⟨wL.heap.size, 1, none⟩ (.string (str a))).setCell ⟨wL.heap.size, 2, none⟩ (.string (str v))).drew wL.heap.size ⟨str (x.drop 5), str a, str v, st.pins, st.ended⟩ (.slice pa st.pins.length pc) from (HLK2.out.set3 (str (x.drop 5)) (str a) (str v)))
            have HZ4 := Lib.hid (show LZ (((w2.setCell ⟨wL.heap.size, 0, none⟩ (.string (str (x.drop 5)))).setCell ⟨wL.heap.size, 1, none⟩ (.string (str a))).setCell ⟨wL.heap.size, 2, none⟩ (.string (str v))).drew w.heap.size from LZ.set (LZ.set (LZ.set HZ2.out hWL 0 _) hWL 1 _) hWL 2 _)
            have HBW4 := Lib.hid (show Below wL.heap.size wL (((w2.setCell ⟨wL.heap.size, 0, none⟩ (.string (str (x.drop 5)))).setCell ⟨wL.heap.size, 1, none⟩ (.string (str a))).setCell ⟨wL.heap.size, 2, none⟩ (.string (str v))).drew from (((HBW2.out.setCell (Nat.le_refl _) _).setCell (Nat.le_refl _) _).setCell (Nat.le_refl _) _).drew)
            have HBX4 := Lib.hid (show Below w.heap.size w (((w2.setCell ⟨wL.heap.size, 0, none⟩ (.string (str (x.drop 5)))).setCell ⟨wL.heap.size, 1, none⟩ (.string (str a))).setCell ⟨wL.heap.size, 2, none⟩ (.string (str v))).drew from (((HBX2.out.setCell (Nat.le_of_lt hWL) _).setCell (Nat.le_of_lt hWL) _).setCell (Nat.le_of_lt hWL) _).drew)
            generalize (((w2.setCell ⟨wL.heap.size, 0, none⟩ (.string (str (x.drop 5)))).setCell ⟨wL.heap.size, 1, none⟩ (.string (str a))).setCell ⟨wL.heap.size, 2, none⟩ (.string (str v))).drew = w4 at HLK4 HZ4 HBW4 HBX4 ⊢
            clear f0 f1 f2 f3 r0 r1 r2 r3 g0 g1 g2 g3 o0 o1 o2 o3 d1 d2 d3 k0 k1 k2
            have f0 := HZ4.out.frozen 0
            have f1 := HZ4.out.frozen 1
            have f2 := HZ4.out.frozen 2
            have f3 := HZ4.out.frozen 3
            obtain ⟨r0, r1, r2, r3⟩ := HZ4.out.cells
            have g0 := HLK4.out.frozen 0
            have g1 := HLK4.out.frozen 1
            have g2 := HLK4.out.frozen 2
            have g3 := HLK4.out.frozen 3
            obtain ⟨o0, o1, o2, o3⟩ := HLK4.out.cells
            simp only at o0 o1 o2 o3
            go_wp2_with fail
            refine (HMG.out _).mono ?_
            rintro e w5 ⟨rfl, hb5⟩
            have HZ5 := Lib.hid (HZ4.out.below hb5 (by have := (Array.getElem?_eq_some_iff.1 HZ4.out).1; exact this))
            have HLK5 := Lib.hid (HLK4.out.below hb5)
            have HBW5 := Lib.hid (HBW4.out.trans (hb5.mono HBW4.out.size))
            have HBX5 := Lib.hid (HBX4.out.trans (hb5.mono HBX4.out.size))
            clear f0 f1 f2 f3 r0 r1 r2 r3 g0 g1 g2 g3 o0 o1 o2 o3 hb5
            have f0 := HZ5.out.frozen 0
            have f1 := HZ5.out.frozen 1
            have f2 := HZ5.out.frozen 2
            have f3 := HZ5.out.frozen 3
            obtain ⟨r0, r1, r2, r3⟩ := HZ5.out.cells
            have g0 := HLK5.out.frozen 0
            have g1 := HLK5.out.frozen 1
            have g2 := HLK5.out.frozen 2
            have g3 := HLK5.out.frozen 3
            obtain ⟨o0, o1, o2, o3⟩ := HLK5.out.cells
            cases m
            · have HF := Lib.hid (show parseL s.data.toList = .inl 2 by rw [← HG1.out]; have hi1 := HI1.out; subst hi1; exact go_bad HH0.out (by rw [HRR.out]; simp))
              go_wp2
              refine bodyPost_ret (refparse_results _ _ w.heap.size _ _ _ _ _ rfl rfl (row_set4 _ _ _ _ HZ5.out)) rfl ?_
              exact .inr ⟨2, HF.out, by omega, by first | rfl | (push_cast; rfl), below_set4 HBX5.out _ _ _ _⟩
            · have HF := Lib.hid (show goM (i + 1 + 1) (L.drop (i + 1)) ⟨str (x.drop 5), str a, str v, st.pins, st.ended⟩ = parseL s.data.toList by rw [← HG1.out]; have hi1 := HI1.out; subst hi1; exact (go_on HH0.out (by rw [HRR.out]; simp)).symm)
              clear f0 f1 f2 f3 r0 r1 r2 r3 g0 g1 g2 g3 o0 o1 o2 o3
              go_wp2_with fail
              go_roundw
              case rel => exact ⟨i + 1, ⟨str (x.drop 5), str a, str v, st.pins, st.ended⟩, _, by go_num, by omega, HF.out, HEN.out, HOK.out, HLK5.out, HZ5.out, HBW5.out⟩
              case measure => simp [intOf]; omega
          have hb1 : ((i : Int) == 1) = false := beq_false_of_ne (by omega)
          have hi2 : 2 ≤ i := by omega
          have hpl4 : st.pins.length ≤ 4096 := HOK.out.2
          have HNM := Lib.hid (fun w => Number_any st.pins.length (by omega) w)
          have hil : (Lib.itoa (st.pins.length : Int)).length ≤ 21 := by rw [itoa_nat]; exact dec_len _ (by omega)
          have hcat : (⟨#[101, 110, 100, 32]⟩ : ByteArray) ++ str (Lib.itoa st.pins.length) = str (endLine st.pins.length) := app_str [101, 110, 100, 32] _
          have hno : ¬ (9223372036854775807 < (⟨#[101, 110, 100, 32]⟩ : ByteArray).size + (str (Lib.itoa st.pins.length)).size) := by rw [size_str]; show ¬ (9223372036854775807 < 4 + _); omega
          clear hi0 hi1
          by_cases hend : t = endLine st.pins.length
          · have hte : ((str t).toList == (str (endLine st.pins.length)).toList) = true := by rw [hend]; simp
            have HF := Lib.hid (show parseL s.data.toList = .inl (i + 2) by rw [← HG1.out, hend, go_end (by omega) HEN.out, if_neg (fun h => by have := congrArg List.length h; rw [List.length_drop] at this; simp at this; omega)])
            clear hend
            go_wp2_with fail
            refine (HNM.out _).mono ?_
            rintro e w2 ⟨rfl, hb2⟩
            have HZ2 := Lib.hid (HZ.out.below hb2 (by have := (Array.getElem?_eq_some_iff.1 HZ.out).1; exact this))
            have HLK2 := Lib.hid (HLK.out.below hb2)
            have HBW2 := Lib.hid (HBW.out.trans (hb2.mono HBW.out.size))
            have HBX2 := Lib.hid (HBX.out.trans (hb2.mono HBX.out.size))
            clear f0 f1 f2 f3 r0 r1 r2 r3 o0 o1 o2 o3 hc hb2
            have f0 := HZ2.out.frozen 0
            have f1 := HZ2.out.frozen 1
            have f2 := HZ2.out.frozen 2
            have f3 := HZ2.out.frozen 3
            obtain ⟨r0, r1, r2, r3⟩ := HZ2.out.cells
            have g0 := HLK2.out.frozen 0
            have g1 := HLK2.out.frozen 1
            have g2 := HLK2.out.frozen 2
            have g3 := HLK2.out.frozen 3
            obtain ⟨o0, o1, o2, o3⟩ := HLK2.out.cells
            go_wp2
            refine bodyPost_ret (refparse_results _ _ w.heap.size _ _ _ _ _ rfl rfl (row_set4 _ _ _ _ HZ2.out)) rfl ?_
            exact .inr ⟨i + 2, HF.out, by omega, by first | rfl | (push_cast; rfl), below_set4 HBX2.out _ _ _ _⟩
          have hte : ((str t).toList == (str (endLine st.pins.length)).toList) = false := by rw [str_list, str_list]; exact beq_false_of_ne hend
          have htk : (str t).size ≤ 3000 := by rw [size_str]; exact htl
          have HST := Lib.hid (pin_step (n := i + 1) (by omega) HEN.out hend)
          have HPN := Lib.hid (fun w => refPin_any (str t) htk w)
          unfold PinPost pnV at HPN
          rw [str_data] at HPN
          generalize pinR t = pr at HPN HST
          obtain ⟨p, ok⟩ := pr
          simp only at HPN HST
          clear hend
          go_wp2_with fail
          refine (HNM.out _).mono ?_
          rintro e w2 ⟨rfl, hb2⟩
          have HZ2 := Lib.hid (HZ.out.below hb2 (by have := (Array.getElem?_eq_some_iff.1 HZ.out).1; exact this))
          have HLK2 := Lib.hid (HLK.out.below hb2)
          have HBW2 := Lib.hid (HBW.out.trans (hb2.mono HBW.out.size))
          have HBX2 := Lib.hid (HBX.out.trans (hb2.mono HBX.out.size))
          clear f0 f1 f2 f3 r0 r1 r2 r3 o0 o1 o2 o3 hc hb2
          have f0 := HZ2.out.frozen 0
          have f1 := HZ2.out.frozen 1
          have f2 := HZ2.out.frozen 2
          have f3 := HZ2.out.frozen 3
          obtain ⟨r0, r1, r2, r3⟩ := HZ2.out.cells
          have g0 := HLK2.out.frozen 0
          have g1 := HLK2.out.frozen 1
          have g2 := HLK2.out.frozen 2
          have g3 := HLK2.out.frozen 3
          obtain ⟨o0, o1, o2, o3⟩ := HLK2.out.cells
          go_wp2_with fail
          refine (HPN.out _).mono ?_
          rintro e w3 ⟨rfl, hb3⟩
          have hb4 : Below w2.heap.size w2 (w3.alloc (.cells #[.string p.g, .string p.a, .string p.t, .string p.c, .string p.v, .int .i64 p.sc] 42)) := hb3.trans (((Below.refl _ w3).alloc (Nat.le_refl _) _).mono hb3.size)
          have HPP := Lib.hid (PinIn.new w3 p)
          have HZ4 := Lib.hid (HZ2.out.below hb4 (by have := (Array.getElem?_eq_some_iff.1 HZ2.out).1; exact this))
          have HLK4 := Lib.hid (HLK2.out.below hb4)
          have HBW4 := Lib.hid (HBW2.out.trans (hb4.mono HBW2.out.size))
          have HBX4 := Lib.hid (HBX2.out.trans (hb4.mono HBX2.out.size))
          clear f0 f1 f2 f3 r0 r1 r2 r3 g0 g1 g2 g3 o0 o1 o2 o3 hb4 hb3
          go_upto_region 24 with fail
          generalize (w3.alloc (.cells #[.string p.g, .string p.a, .string p.t, .string p.c, .string p.v, .int .i64 p.sc] 42)) = w4 at HPP HZ4 HLK4 HBW4 HBX4 ⊢
          generalize w3.heap.size = P at HPP ⊢
          have f0 := HZ4.out.frozen 0
          have f1 := HZ4.out.frozen 1
          have f2 := HZ4.out.frozen 2
          have f3 := HZ4.out.frozen 3
          obtain ⟨r0, r1, r2, r3⟩ := HZ4.out.cells
          have g0 := HLK4.out.frozen 0
          have g1 := HLK4.out.frozen 1
          have g2 := HLK4.out.frozen 2
          have g3 := HLK4.out.frozen 3
          obtain ⟨o0, o1, o2, o3⟩ := HLK4.out.cells
          obtain ⟨q0, q1, q2, q3, q4, q5⟩ := HPP.out
          have hba := Below.refl w4.heap.size w4
          cases ok
          · have HF := Lib.hid (show parseL s.data.toList = .inl (i + 1) by rw [← HG1.out]; exact go_bad HH0.out (by rw [HST.out]; simp))
            have HZ5 := Lib.hid (show LZ w4.drew w.heap.size from HZ4.out)
            have HBX5 := Lib.hid HBX4.out.drew
            go_upto_region 25 with fail
            refine wp_region_held_drew (S := (fun w' => Below w4.heap.size w4 w')) (by kernel_rfl) (by (try dsimp only); (first | with_reducible exact hba.drew | with_reducible assumption)) (fun hHeld => ?_)
            refine wpAnyH_take (i := 0) (v := ?_) (by (simp only [List.getElem?_toArray, List.getElem?_cons_succ, List.getElem?_cons_zero]; rfl)) (by kernel_rfl) (by kernel_rfl) (by kernel_rfl) (by intro _ _ _ h; exact h) (Or.inl ⟨by rfl, ?_⟩) (by assumption) ?_
            rotate_left
            · (intro w hSw; (try dsimp only at hSw); go_simp; try (with_reducible rfl))
            simp only [Act.put, List.setIfInBounds_toArray, List.set_cons_zero, List.set_cons_succ]
            refine wpAnyH_take (i := 1) (v := ?_) (by (simp only [List.getElem?_toArray, List.getElem?_cons_succ, List.getElem?_cons_zero]; rfl)) (by kernel_rfl) (by kernel_rfl) (by kernel_rfl) (by intro _ _ _ h; exact h) (Or.inl ⟨by rfl, ?_⟩) (by assumption) ?_
            rotate_left
            · (intro w hSw; (try dsimp only at hSw); go_simp; try (with_reducible rfl))
            simp only [Act.put, List.setIfInBounds_toArray, List.set_cons_zero, List.set_cons_succ]
            refine wpAnyH_take (i := 2) (v := ?_) (by (simp only [List.getElem?_toArray, List.getElem?_cons_succ, List.getElem?_cons_zero]; rfl)) (by kernel_rfl) (by kernel_rfl) (by kernel_rfl) (by intro _ _ _ h; exact h) (Or.inl ⟨by rfl, ?_⟩) (by assumption) ?_
            rotate_left
            · (intro w hSw; (try dsimp only at hSw); go_simp; try (with_reducible rfl))
            simp only [Act.put, List.setIfInBounds_toArray, List.set_cons_zero, List.set_cons_succ]
            refine wpAnyH_take (i := 3) (v := undef) (by (simp only [List.getElem?_toArray, List.getElem?_cons_succ, List.getElem?_cons_zero]; rfl)) (by kernel_rfl) (by kernel_rfl) (by kernel_rfl) (by intro _ _ _ h; exact h) (Or.inr ⟨by rfl, rfl⟩) (by assumption) ?_
            simp only [Act.put, List.setIfInBounds_toArray, List.set_cons_zero, List.set_cons_succ]
            refine wpAnyH_take (i := 4) (v := undef) (by (simp only [List.getElem?_toArray, List.getElem?_cons_succ, List.getElem?_cons_zero]; rfl)) (by kernel_rfl) (by kernel_rfl) (by kernel_rfl) (by intro _ _ _ h; exact h) (Or.inr ⟨by rfl, rfl⟩) (by assumption) ?_
            simp only [Act.put, List.setIfInBounds_toArray, List.set_cons_zero, List.set_cons_succ]
            refine wpAnyH_take (i := 5) (v := ?_) (by (simp only [List.getElem?_toArray, List.getElem?_cons_succ, List.getElem?_cons_zero]; rfl)) (by kernel_rfl) (by kernel_rfl) (by kernel_rfl) (by intro _ _ _ h; exact h) (Or.inl ⟨by rfl, ?_⟩) (by assumption) ?_
            rotate_left
            · (intro w hSw; (try dsimp only at hSw); go_simp; try (with_reducible rfl))
            simp only [Act.put, List.setIfInBounds_toArray, List.set_cons_zero, List.set_cons_succ]
            refine wpAnyH_take (i := 6) (v := ?_) (by (simp only [List.getElem?_toArray, List.getElem?_cons_succ, List.getElem?_cons_zero]; rfl)) (by kernel_rfl) (by kernel_rfl) (by kernel_rfl) (by intro _ _ _ h; exact h) (Or.inl ⟨by rfl, ?_⟩) (by assumption) ?_
            rotate_left
            · (intro w hSw; (try dsimp only at hSw); go_simp; try (with_reducible rfl))
            simp only [Act.put, List.setIfInBounds_toArray, List.set_cons_zero, List.set_cons_succ]
            refine wpAnyH_take (i := 7) (v := undef) (by (simp only [List.getElem?_toArray, List.getElem?_cons_succ, List.getElem?_cons_zero]; rfl)) (by kernel_rfl) (by kernel_rfl) (by kernel_rfl) (by intro _ _ _ h; exact h) (Or.inr ⟨by rfl, rfl⟩) (by assumption) ?_
            simp only [Act.put, List.setIfInBounds_toArray, List.set_cons_zero, List.set_cons_succ]
            refine wpAnyH_take (i := 8) (v := undef) (by (simp only [List.getElem?_toArray, List.getElem?_cons_succ, List.getElem?_cons_zero]; rfl)) (by kernel_rfl) (by kernel_rfl) (by kernel_rfl) (by intro _ _ _ h; exact h) (Or.inr ⟨by rfl, rfl⟩) (by assumption) ?_
            simp only [Act.put, List.setIfInBounds_toArray, List.set_cons_zero, List.set_cons_succ]
            refine wpAnyH_take (i := 9) (v := undef) (by (simp only [List.getElem?_toArray, List.getElem?_cons_succ, List.getElem?_cons_zero]; rfl)) (by kernel_rfl) (by kernel_rfl) (by kernel_rfl) (by intro _ _ _ h; exact h) (Or.inr ⟨by rfl, rfl⟩) (by assumption) ?_
            simp only [Act.put, List.setIfInBounds_toArray, List.set_cons_zero, List.set_cons_succ]
            refine wpAnyH_take (i := 10) (v := undef) (by (simp only [List.getElem?_toArray, List.getElem?_cons_succ, List.getElem?_cons_zero]; rfl)) (by kernel_rfl) (by kernel_rfl) (by kernel_rfl) (by intro _ _ _ h; exact h) (Or.inr ⟨by rfl, rfl⟩) (by assumption) ?_
            simp only [Act.put, List.setIfInBounds_toArray, List.set_cons_zero, List.set_cons_succ]
            refine wpAnyH_take (i := 11) (v := undef) (by (simp only [List.getElem?_toArray, List.getElem?_cons_succ, List.getElem?_cons_zero]; rfl)) (by kernel_rfl) (by kernel_rfl) (by kernel_rfl) (by intro _ _ _ h; exact h) (Or.inr ⟨by rfl, rfl⟩) (by assumption) ?_
            simp only [Act.put, List.setIfInBounds_toArray, List.set_cons_zero, List.set_cons_succ]
            refine wpAnyH_take (i := 12) (v := undef) (by (simp only [List.getElem?_toArray, List.getElem?_cons_succ, List.getElem?_cons_zero]; rfl)) (by kernel_rfl) (by kernel_rfl) (by kernel_rfl) (by intro _ _ _ h; exact h) (Or.inr ⟨by rfl, rfl⟩) (by assumption) ?_
            simp only [Act.put, List.setIfInBounds_toArray, List.set_cons_zero, List.set_cons_succ]
            refine wpAnyH_take (i := 13) (v := undef) (by (simp only [List.getElem?_toArray, List.getElem?_cons_succ, List.getElem?_cons_zero]; rfl)) (by kernel_rfl) (by kernel_rfl) (by kernel_rfl) (by intro _ _ _ h; exact h) (Or.inr ⟨by rfl, rfl⟩) (by assumption) ?_
            simp only [Act.put, List.setIfInBounds_toArray, List.set_cons_zero, List.set_cons_succ]
            refine wpAnyH_take (i := 14) (v := undef) (by (simp only [List.getElem?_toArray, List.getElem?_cons_succ, List.getElem?_cons_zero]; rfl)) (by kernel_rfl) (by kernel_rfl) (by kernel_rfl) (by intro _ _ _ h; exact h) (Or.inr ⟨by rfl, rfl⟩) (by assumption) ?_
            simp only [Act.put, List.setIfInBounds_toArray, List.set_cons_zero, List.set_cons_succ]
            refine wpAnyH_take (i := 15) (v := undef) (by (simp only [List.getElem?_toArray, List.getElem?_cons_succ, List.getElem?_cons_zero]; rfl)) (by kernel_rfl) (by kernel_rfl) (by kernel_rfl) (by intro _ _ _ h; exact h) (Or.inr ⟨by rfl, rfl⟩) (by assumption) ?_
            simp only [Act.put, List.setIfInBounds_toArray, List.set_cons_zero, List.set_cons_succ]
            refine wpAnyH_take (i := 16) (v := undef) (by (simp only [List.getElem?_toArray, List.getElem?_cons_succ, List.getElem?_cons_zero]; rfl)) (by kernel_rfl) (by kernel_rfl) (by kernel_rfl) (by intro _ _ _ h; exact h) (Or.inr ⟨by rfl, rfl⟩) (by assumption) ?_
            simp only [Act.put, List.setIfInBounds_toArray, List.set_cons_zero, List.set_cons_succ]
            refine wpAnyH_take (i := 17) (v := undef) (by (simp only [List.getElem?_toArray, List.getElem?_cons_succ, List.getElem?_cons_zero]; rfl)) (by kernel_rfl) (by kernel_rfl) (by kernel_rfl) (by intro _ _ _ h; exact h) (Or.inr ⟨by rfl, rfl⟩) (by assumption) ?_
            simp only [Act.put, List.setIfInBounds_toArray, List.set_cons_zero, List.set_cons_succ]
            refine wpAnyH_take (i := 18) (v := undef) (by (simp only [List.getElem?_toArray, List.getElem?_cons_succ, List.getElem?_cons_zero]; rfl)) (by kernel_rfl) (by kernel_rfl) (by kernel_rfl) (by intro _ _ _ h; exact h) (Or.inr ⟨by rfl, rfl⟩) (by assumption) ?_
            simp only [Act.put, List.setIfInBounds_toArray, List.set_cons_zero, List.set_cons_succ]
            refine wpAnyH_take (i := 19) (v := undef) (by (simp only [List.getElem?_toArray, List.getElem?_cons_succ, List.getElem?_cons_zero]; rfl)) (by kernel_rfl) (by kernel_rfl) (by kernel_rfl) (by intro _ _ _ h; exact h) (Or.inr ⟨by rfl, rfl⟩) (by assumption) ?_
            simp only [Act.put, List.setIfInBounds_toArray, List.set_cons_zero, List.set_cons_succ]
            refine wpAnyH_take (i := 20) (v := undef) (by (simp only [List.getElem?_toArray, List.getElem?_cons_succ, List.getElem?_cons_zero]; rfl)) (by kernel_rfl) (by kernel_rfl) (by kernel_rfl) (by intro _ _ _ h; exact h) (Or.inr ⟨by rfl, rfl⟩) (by assumption) ?_
            simp only [Act.put, List.setIfInBounds_toArray, List.set_cons_zero, List.set_cons_succ]
            refine wpAnyH_take (i := 21) (v := undef) (by (simp only [List.getElem?_toArray, List.getElem?_cons_succ, List.getElem?_cons_zero]; rfl)) (by kernel_rfl) (by kernel_rfl) (by kernel_rfl) (by intro _ _ _ h; exact h) (Or.inr ⟨by rfl, rfl⟩) (by assumption) ?_
            simp only [Act.put, List.setIfInBounds_toArray, List.set_cons_zero, List.set_cons_succ]
            refine wpAnyH_take (i := 22) (v := ?_) (by (simp only [List.getElem?_toArray, List.getElem?_cons_succ, List.getElem?_cons_zero]; rfl)) (by kernel_rfl) (by kernel_rfl) (by kernel_rfl) (by intro _ _ _ h; exact h) (Or.inl ⟨by rfl, ?_⟩) (by assumption) ?_
            rotate_left
            · (intro w hSw; (try dsimp only at hSw); go_simp; try (with_reducible rfl))
            simp only [Act.put, List.setIfInBounds_toArray, List.set_cons_zero, List.set_cons_succ]
            refine wpAnyH_done (by kernel_rfl) ?_ _
            go_wp2
            refine bodyPost_ret (refparse_results _ _ w.heap.size _ _ _ _ _ rfl rfl (row_set4 _ _ _ _ HZ5.out)) rfl ?_
            exact .inr ⟨i + 1, HF.out, by omega, by first | rfl | (push_cast; rfl), below_set4 HBX5.out _ _ _ _⟩
          by_cases hn4 : 4096 ≤ st.pins.length
          · have h4b : decide ((4096 : Int) ≤ (st.pins.length : Int)) = true := decide_eq_true (by omega)
            have HF := Lib.hid (show parseL s.data.toList = .inl (i + 1) by rw [← HG1.out]; exact go_bad HH0.out (by rw [HST.out, if_neg (fun h => by have := h.1.2; omega)]))
            have HZ5 := Lib.hid (show LZ w4.drew w.heap.size from HZ4.out)
            have HBX5 := Lib.hid HBX4.out.drew
            go_upto_region 25 with fail
            refine wp_region_held_drew (S := (fun w' => Below w4.heap.size w4 w')) (by kernel_rfl) (by (try dsimp only); (first | with_reducible exact hba.drew | with_reducible assumption)) (fun hHeld => ?_)
            refine wpAnyH_take (i := 0) (v := ?_) (by (simp only [List.getElem?_toArray, List.getElem?_cons_succ, List.getElem?_cons_zero]; rfl)) (by kernel_rfl) (by kernel_rfl) (by kernel_rfl) (by intro _ _ _ h; exact h) (Or.inl ⟨by rfl, ?_⟩) (by assumption) ?_
            rotate_left
            · (intro w hSw; (try dsimp only at hSw); go_simp; try (with_reducible rfl))
            simp only [Act.put, List.setIfInBounds_toArray, List.set_cons_zero, List.set_cons_succ]
            refine wpAnyH_take (i := 1) (v := ?_) (by (simp only [List.getElem?_toArray, List.getElem?_cons_succ, List.getElem?_cons_zero]; rfl)) (by kernel_rfl) (by kernel_rfl) (by kernel_rfl) (by intro _ _ _ h; exact h) (Or.inl ⟨by rfl, ?_⟩) (by assumption) ?_
            rotate_left
            · (intro w hSw; (try dsimp only at hSw); go_simp; try (with_reducible rfl))
            simp only [Act.put, List.setIfInBounds_toArray, List.set_cons_zero, List.set_cons_succ]
            refine wpAnyH_take (i := 2) (v := ?_) (by (simp only [List.getElem?_toArray, List.getElem?_cons_succ, List.getElem?_cons_zero]; rfl)) (by kernel_rfl) (by kernel_rfl) (by kernel_rfl) (by intro _ _ _ h; exact h) (Or.inl ⟨by rfl, ?_⟩) (by assumption) ?_
            rotate_left
            · (intro w hSw; (try dsimp only at hSw); go_simp; try (with_reducible rfl))
            simp only [Act.put, List.setIfInBounds_toArray, List.set_cons_zero, List.set_cons_succ]
            refine wpAnyH_take (i := 3) (v := ?_) (by (simp only [List.getElem?_toArray, List.getElem?_cons_succ, List.getElem?_cons_zero]; rfl)) (by kernel_rfl) (by kernel_rfl) (by kernel_rfl) (by intro _ _ _ h; exact h) (Or.inl ⟨by rfl, ?_⟩) (by assumption) ?_
            rotate_left
            · (intro w hSw; (try dsimp only at hSw); go_simp; try (with_reducible rfl))
            simp only [Act.put, List.setIfInBounds_toArray, List.set_cons_zero, List.set_cons_succ]
            refine wpAnyH_take (i := 4) (v := ?_) (by (simp only [List.getElem?_toArray, List.getElem?_cons_succ, List.getElem?_cons_zero]; rfl)) (by kernel_rfl) (by kernel_rfl) (by kernel_rfl) (by intro _ _ _ h; exact h) (Or.inl ⟨by rfl, ?_⟩) (by assumption) ?_
            rotate_left
            · (intro w hSw; (try dsimp only at hSw); go_simp; try (with_reducible rfl))
            simp only [Act.put, List.setIfInBounds_toArray, List.set_cons_zero, List.set_cons_succ]
            refine wpAnyH_take (i := 5) (v := ?_) (by (simp only [List.getElem?_toArray, List.getElem?_cons_succ, List.getElem?_cons_zero]; rfl)) (by kernel_rfl) (by kernel_rfl) (by kernel_rfl) (by intro _ _ _ h; exact h) (Or.inl ⟨by rfl, ?_⟩) (by assumption) ?_
            rotate_left
            · (intro w hSw; (try dsimp only at hSw); go_simp; try (with_reducible rfl))
            simp only [Act.put, List.setIfInBounds_toArray, List.set_cons_zero, List.set_cons_succ]
            refine wpAnyH_take (i := 6) (v := ?_) (by (simp only [List.getElem?_toArray, List.getElem?_cons_succ, List.getElem?_cons_zero]; rfl)) (by kernel_rfl) (by kernel_rfl) (by kernel_rfl) (by intro _ _ _ h; exact h) (Or.inl ⟨by rfl, ?_⟩) (by assumption) ?_
            rotate_left
            · (intro w hSw; (try dsimp only at hSw); go_simp; try (with_reducible rfl))
            simp only [Act.put, List.setIfInBounds_toArray, List.set_cons_zero, List.set_cons_succ]
            refine wpAnyH_take (i := 7) (v := undef) (by (simp only [List.getElem?_toArray, List.getElem?_cons_succ, List.getElem?_cons_zero]; rfl)) (by kernel_rfl) (by kernel_rfl) (by kernel_rfl) (by intro _ _ _ h; exact h) (Or.inr ⟨by rfl, rfl⟩) (by assumption) ?_
            simp only [Act.put, List.setIfInBounds_toArray, List.set_cons_zero, List.set_cons_succ]
            refine wpAnyH_take (i := 8) (v := undef) (by (simp only [List.getElem?_toArray, List.getElem?_cons_succ, List.getElem?_cons_zero]; rfl)) (by kernel_rfl) (by kernel_rfl) (by kernel_rfl) (by intro _ _ _ h; exact h) (Or.inr ⟨by rfl, rfl⟩) (by assumption) ?_
            simp only [Act.put, List.setIfInBounds_toArray, List.set_cons_zero, List.set_cons_succ]
            refine wpAnyH_take (i := 9) (v := undef) (by (simp only [List.getElem?_toArray, List.getElem?_cons_succ, List.getElem?_cons_zero]; rfl)) (by kernel_rfl) (by kernel_rfl) (by kernel_rfl) (by intro _ _ _ h; exact h) (Or.inr ⟨by rfl, rfl⟩) (by assumption) ?_
            simp only [Act.put, List.setIfInBounds_toArray, List.set_cons_zero, List.set_cons_succ]
            refine wpAnyH_take (i := 10) (v := undef) (by (simp only [List.getElem?_toArray, List.getElem?_cons_succ, List.getElem?_cons_zero]; rfl)) (by kernel_rfl) (by kernel_rfl) (by kernel_rfl) (by intro _ _ _ h; exact h) (Or.inr ⟨by rfl, rfl⟩) (by assumption) ?_
            simp only [Act.put, List.setIfInBounds_toArray, List.set_cons_zero, List.set_cons_succ]
            refine wpAnyH_take (i := 11) (v := undef) (by (simp only [List.getElem?_toArray, List.getElem?_cons_succ, List.getElem?_cons_zero]; rfl)) (by kernel_rfl) (by kernel_rfl) (by kernel_rfl) (by intro _ _ _ h; exact h) (Or.inr ⟨by rfl, rfl⟩) (by assumption) ?_
            simp only [Act.put, List.setIfInBounds_toArray, List.set_cons_zero, List.set_cons_succ]
            refine wpAnyH_take (i := 12) (v := undef) (by (simp only [List.getElem?_toArray, List.getElem?_cons_succ, List.getElem?_cons_zero]; rfl)) (by kernel_rfl) (by kernel_rfl) (by kernel_rfl) (by intro _ _ _ h; exact h) (Or.inr ⟨by rfl, rfl⟩) (by assumption) ?_
            simp only [Act.put, List.setIfInBounds_toArray, List.set_cons_zero, List.set_cons_succ]
            refine wpAnyH_take (i := 13) (v := undef) (by (simp only [List.getElem?_toArray, List.getElem?_cons_succ, List.getElem?_cons_zero]; rfl)) (by kernel_rfl) (by kernel_rfl) (by kernel_rfl) (by intro _ _ _ h; exact h) (Or.inr ⟨by rfl, rfl⟩) (by assumption) ?_
            simp only [Act.put, List.setIfInBounds_toArray, List.set_cons_zero, List.set_cons_succ]
            refine wpAnyH_take (i := 14) (v := undef) (by (simp only [List.getElem?_toArray, List.getElem?_cons_succ, List.getElem?_cons_zero]; rfl)) (by kernel_rfl) (by kernel_rfl) (by kernel_rfl) (by intro _ _ _ h; exact h) (Or.inr ⟨by rfl, rfl⟩) (by assumption) ?_
            simp only [Act.put, List.setIfInBounds_toArray, List.set_cons_zero, List.set_cons_succ]
            refine wpAnyH_take (i := 15) (v := undef) (by (simp only [List.getElem?_toArray, List.getElem?_cons_succ, List.getElem?_cons_zero]; rfl)) (by kernel_rfl) (by kernel_rfl) (by kernel_rfl) (by intro _ _ _ h; exact h) (Or.inr ⟨by rfl, rfl⟩) (by assumption) ?_
            simp only [Act.put, List.setIfInBounds_toArray, List.set_cons_zero, List.set_cons_succ]
            refine wpAnyH_take (i := 16) (v := undef) (by (simp only [List.getElem?_toArray, List.getElem?_cons_succ, List.getElem?_cons_zero]; rfl)) (by kernel_rfl) (by kernel_rfl) (by kernel_rfl) (by intro _ _ _ h; exact h) (Or.inr ⟨by rfl, rfl⟩) (by assumption) ?_
            simp only [Act.put, List.setIfInBounds_toArray, List.set_cons_zero, List.set_cons_succ]
            refine wpAnyH_take (i := 17) (v := undef) (by (simp only [List.getElem?_toArray, List.getElem?_cons_succ, List.getElem?_cons_zero]; rfl)) (by kernel_rfl) (by kernel_rfl) (by kernel_rfl) (by intro _ _ _ h; exact h) (Or.inr ⟨by rfl, rfl⟩) (by assumption) ?_
            simp only [Act.put, List.setIfInBounds_toArray, List.set_cons_zero, List.set_cons_succ]
            refine wpAnyH_take (i := 18) (v := undef) (by (simp only [List.getElem?_toArray, List.getElem?_cons_succ, List.getElem?_cons_zero]; rfl)) (by kernel_rfl) (by kernel_rfl) (by kernel_rfl) (by intro _ _ _ h; exact h) (Or.inr ⟨by rfl, rfl⟩) (by assumption) ?_
            simp only [Act.put, List.setIfInBounds_toArray, List.set_cons_zero, List.set_cons_succ]
            refine wpAnyH_take (i := 19) (v := undef) (by (simp only [List.getElem?_toArray, List.getElem?_cons_succ, List.getElem?_cons_zero]; rfl)) (by kernel_rfl) (by kernel_rfl) (by kernel_rfl) (by intro _ _ _ h; exact h) (Or.inr ⟨by rfl, rfl⟩) (by assumption) ?_
            simp only [Act.put, List.setIfInBounds_toArray, List.set_cons_zero, List.set_cons_succ]
            refine wpAnyH_take (i := 20) (v := undef) (by (simp only [List.getElem?_toArray, List.getElem?_cons_succ, List.getElem?_cons_zero]; rfl)) (by kernel_rfl) (by kernel_rfl) (by kernel_rfl) (by intro _ _ _ h; exact h) (Or.inr ⟨by rfl, rfl⟩) (by assumption) ?_
            simp only [Act.put, List.setIfInBounds_toArray, List.set_cons_zero, List.set_cons_succ]
            refine wpAnyH_take (i := 21) (v := undef) (by (simp only [List.getElem?_toArray, List.getElem?_cons_succ, List.getElem?_cons_zero]; rfl)) (by kernel_rfl) (by kernel_rfl) (by kernel_rfl) (by intro _ _ _ h; exact h) (Or.inr ⟨by rfl, rfl⟩) (by assumption) ?_
            simp only [Act.put, List.setIfInBounds_toArray, List.set_cons_zero, List.set_cons_succ]
            refine wpAnyH_take (i := 22) (v := ?_) (by (simp only [List.getElem?_toArray, List.getElem?_cons_succ, List.getElem?_cons_zero]; rfl)) (by kernel_rfl) (by kernel_rfl) (by kernel_rfl) (by intro _ _ _ h; exact h) (Or.inl ⟨by rfl, ?_⟩) (by assumption) ?_
            rotate_left
            · (intro w hSw; (try dsimp only at hSw); go_simp; try (with_reducible rfl))
            simp only [Act.put, List.setIfInBounds_toArray, List.set_cons_zero, List.set_cons_succ]
            refine wpAnyH_done (by kernel_rfl) ?_ _
            go_wp2
            refine bodyPost_ret (refparse_results _ _ w.heap.size _ _ _ _ _ rfl rfl (row_set4 _ _ _ _ HZ5.out)) rfl ?_
            exact .inr ⟨i + 1, HF.out, by omega, by first | rfl | (push_cast; rfl), below_set4 HBX5.out _ _ _ _⟩
          have h4b : decide ((4096 : Int) ≤ (st.pins.length : Int)) = false := decide_eq_false (by omega)
          by_cases hn0 : st.pins.length = 0
          · have hgb : decide ((0 : Int) < (st.pins.length : Int)) = false := decide_eq_false (by omega)
            have HTK := Lib.hid (show takeM (i + 1) t st = some ⟨st.rg, st.ra, st.rv, st.pins ++ [p], st.ended⟩ by rw [HST.out, if_pos ⟨⟨rfl, by omega⟩, by unfold prevR; rw [decide_eq_true hn0]; rfl⟩])
            have HLK5 := Lib.hid (show LK w4.drew wL.heap.size st _ from HLK4.out)
            have HZ5 := Lib.hid (show LZ w4.drew w.heap.size from HZ4.out)
            have HBW5 := Lib.hid HBW4.out.drew
            have hgb2 : decide (0 < st.pins.length) = false := decide_eq_false (by omega)
            clear hn0
            go_upto_region 25 with fail
            refine wp_region_held_drew (S := (fun w' => Below w4.heap.size w4 w')) (by kernel_rfl) (by (try dsimp only); (first | with_reducible exact hba.drew | with_reducible assumption)) (fun hHeld => ?_)
            refine wpAnyH_take (i := 0) (v := ?_) (by (simp only [List.getElem?_toArray, List.getElem?_cons_succ, List.getElem?_cons_zero]; rfl)) (by kernel_rfl) (by kernel_rfl) (by kernel_rfl) (by intro _ _ _ h; exact h) (Or.inl ⟨by rfl, ?_⟩) (by assumption) ?_
            rotate_left
            · (intro w hSw; (try dsimp only at hSw); go_simp; try (with_reducible rfl))
            simp only [Act.put, List.setIfInBounds_toArray, List.set_cons_zero, List.set_cons_succ]
            refine wpAnyH_take (i := 1) (v := ?_) (by (simp only [List.getElem?_toArray, List.getElem?_cons_succ, List.getElem?_cons_zero]; rfl)) (by kernel_rfl) (by kernel_rfl) (by kernel_rfl) (by intro _ _ _ h; exact h) (Or.inl ⟨by rfl, ?_⟩) (by assumption) ?_
            rotate_left
            · (intro w hSw; (try dsimp only at hSw); go_simp; try (with_reducible rfl))
            simp only [Act.put, List.setIfInBounds_toArray, List.set_cons_zero, List.set_cons_succ]
            refine wpAnyH_take (i := 2) (v := ?_) (by (simp only [List.getElem?_toArray, List.getElem?_cons_succ, List.getElem?_cons_zero]; rfl)) (by kernel_rfl) (by kernel_rfl) (by kernel_rfl) (by intro _ _ _ h; exact h) (Or.inl ⟨by rfl, ?_⟩) (by assumption) ?_
            rotate_left
            · (intro w hSw; (try dsimp only at hSw); go_simp; try (with_reducible rfl))
            simp only [Act.put, List.setIfInBounds_toArray, List.set_cons_zero, List.set_cons_succ]
            refine wpAnyH_take (i := 3) (v := ?_) (by (simp only [List.getElem?_toArray, List.getElem?_cons_succ, List.getElem?_cons_zero]; rfl)) (by kernel_rfl) (by kernel_rfl) (by kernel_rfl) (by intro _ _ _ h; exact h) (Or.inl ⟨by rfl, ?_⟩) (by assumption) ?_
            rotate_left
            · (intro w hSw; (try dsimp only at hSw); go_simp; try (with_reducible rfl))
            simp only [Act.put, List.setIfInBounds_toArray, List.set_cons_zero, List.set_cons_succ]
            refine wpAnyH_take (i := 4) (v := ?_) (by (simp only [List.getElem?_toArray, List.getElem?_cons_succ, List.getElem?_cons_zero]; rfl)) (by kernel_rfl) (by kernel_rfl) (by kernel_rfl) (by intro _ _ _ h; exact h) (Or.inl ⟨by rfl, ?_⟩) (by assumption) ?_
            rotate_left
            · (intro w hSw; (try dsimp only at hSw); go_simp; try (with_reducible rfl))
            simp only [Act.put, List.setIfInBounds_toArray, List.set_cons_zero, List.set_cons_succ]
            refine wpAnyH_take (i := 5) (v := ?_) (by (simp only [List.getElem?_toArray, List.getElem?_cons_succ, List.getElem?_cons_zero]; rfl)) (by kernel_rfl) (by kernel_rfl) (by kernel_rfl) (by intro _ _ _ h; exact h) (Or.inl ⟨by rfl, ?_⟩) (by assumption) ?_
            rotate_left
            · (intro w hSw; (try dsimp only at hSw); go_simp; try (with_reducible rfl))
            simp only [Act.put, List.setIfInBounds_toArray, List.set_cons_zero, List.set_cons_succ]
            refine wpAnyH_take (i := 6) (v := ?_) (by (simp only [List.getElem?_toArray, List.getElem?_cons_succ, List.getElem?_cons_zero]; rfl)) (by kernel_rfl) (by kernel_rfl) (by kernel_rfl) (by intro _ _ _ h; exact h) (Or.inl ⟨by rfl, ?_⟩) (by assumption) ?_
            rotate_left
            · (intro w hSw; (try dsimp only at hSw); go_simp; try (with_reducible rfl))
            simp only [Act.put, List.setIfInBounds_toArray, List.set_cons_zero, List.set_cons_succ]
            refine wpAnyH_take (i := 7) (v := ?_) (by (simp only [List.getElem?_toArray, List.getElem?_cons_succ, List.getElem?_cons_zero]; rfl)) (by kernel_rfl) (by kernel_rfl) (by kernel_rfl) (by intro _ _ _ h; exact h) (Or.inl ⟨by rfl, ?_⟩) (by assumption) ?_
            rotate_left
            · (intro w hSw; (try dsimp only at hSw); go_simp; try (with_reducible rfl))
            simp only [Act.put, List.setIfInBounds_toArray, List.set_cons_zero, List.set_cons_succ]
            refine wpAnyH_take (i := 8) (v := ?_) (by (simp only [List.getElem?_toArray, List.getElem?_cons_succ, List.getElem?_cons_zero]; rfl)) (by kernel_rfl) (by kernel_rfl) (by kernel_rfl) (by intro _ _ _ h; exact h) (Or.inl ⟨by rfl, ?_⟩) (by assumption) ?_
            rotate_left
            · (intro w hSw; (try dsimp only at hSw); go_simp; try (with_reducible rfl))
            simp only [Act.put, List.setIfInBounds_toArray, List.set_cons_zero, List.set_cons_succ]
            refine wpAnyH_take (i := 9) (v := ?_) (by (simp only [List.getElem?_toArray, List.getElem?_cons_succ, List.getElem?_cons_zero]; rfl)) (by kernel_rfl) (by kernel_rfl) (by kernel_rfl) (by intro _ _ _ h; exact h) (Or.inl ⟨by rfl, ?_⟩) (by assumption) ?_
            rotate_left
            · (intro w hSw; (try dsimp only at hSw); go_simp; try (with_reducible rfl))
            simp only [Act.put, List.setIfInBounds_toArray, List.set_cons_zero, List.set_cons_succ]
            refine wpAnyH_take (i := 10) (v := undef) (by (simp only [List.getElem?_toArray, List.getElem?_cons_succ, List.getElem?_cons_zero]; rfl)) (by kernel_rfl) (by kernel_rfl) (by kernel_rfl) (by intro _ _ _ h; exact h) (Or.inr ⟨by rfl, rfl⟩) (by assumption) ?_
            simp only [Act.put, List.setIfInBounds_toArray, List.set_cons_zero, List.set_cons_succ]
            refine wpAnyH_take (i := 11) (v := undef) (by (simp only [List.getElem?_toArray, List.getElem?_cons_succ, List.getElem?_cons_zero]; rfl)) (by kernel_rfl) (by kernel_rfl) (by kernel_rfl) (by intro _ _ _ h; exact h) (Or.inr ⟨by rfl, rfl⟩) (by assumption) ?_
            simp only [Act.put, List.setIfInBounds_toArray, List.set_cons_zero, List.set_cons_succ]
            refine wpAnyH_take (i := 12) (v := undef) (by (simp only [List.getElem?_toArray, List.getElem?_cons_succ, List.getElem?_cons_zero]; rfl)) (by kernel_rfl) (by kernel_rfl) (by kernel_rfl) (by intro _ _ _ h; exact h) (Or.inr ⟨by rfl, rfl⟩) (by assumption) ?_
            simp only [Act.put, List.setIfInBounds_toArray, List.set_cons_zero, List.set_cons_succ]
            refine wpAnyH_take (i := 13) (v := undef) (by (simp only [List.getElem?_toArray, List.getElem?_cons_succ, List.getElem?_cons_zero]; rfl)) (by kernel_rfl) (by kernel_rfl) (by kernel_rfl) (by intro _ _ _ h; exact h) (Or.inr ⟨by rfl, rfl⟩) (by assumption) ?_
            simp only [Act.put, List.setIfInBounds_toArray, List.set_cons_zero, List.set_cons_succ]
            refine wpAnyH_take (i := 14) (v := undef) (by (simp only [List.getElem?_toArray, List.getElem?_cons_succ, List.getElem?_cons_zero]; rfl)) (by kernel_rfl) (by kernel_rfl) (by kernel_rfl) (by intro _ _ _ h; exact h) (Or.inr ⟨by rfl, rfl⟩) (by assumption) ?_
            simp only [Act.put, List.setIfInBounds_toArray, List.set_cons_zero, List.set_cons_succ]
            refine wpAnyH_take (i := 15) (v := undef) (by (simp only [List.getElem?_toArray, List.getElem?_cons_succ, List.getElem?_cons_zero]; rfl)) (by kernel_rfl) (by kernel_rfl) (by kernel_rfl) (by intro _ _ _ h; exact h) (Or.inr ⟨by rfl, rfl⟩) (by assumption) ?_
            simp only [Act.put, List.setIfInBounds_toArray, List.set_cons_zero, List.set_cons_succ]
            refine wpAnyH_take (i := 16) (v := undef) (by (simp only [List.getElem?_toArray, List.getElem?_cons_succ, List.getElem?_cons_zero]; rfl)) (by kernel_rfl) (by kernel_rfl) (by kernel_rfl) (by intro _ _ _ h; exact h) (Or.inr ⟨by rfl, rfl⟩) (by assumption) ?_
            simp only [Act.put, List.setIfInBounds_toArray, List.set_cons_zero, List.set_cons_succ]
            refine wpAnyH_take (i := 17) (v := undef) (by (simp only [List.getElem?_toArray, List.getElem?_cons_succ, List.getElem?_cons_zero]; rfl)) (by kernel_rfl) (by kernel_rfl) (by kernel_rfl) (by intro _ _ _ h; exact h) (Or.inr ⟨by rfl, rfl⟩) (by assumption) ?_
            simp only [Act.put, List.setIfInBounds_toArray, List.set_cons_zero, List.set_cons_succ]
            refine wpAnyH_take (i := 18) (v := undef) (by (simp only [List.getElem?_toArray, List.getElem?_cons_succ, List.getElem?_cons_zero]; rfl)) (by kernel_rfl) (by kernel_rfl) (by kernel_rfl) (by intro _ _ _ h; exact h) (Or.inr ⟨by rfl, rfl⟩) (by assumption) ?_
            simp only [Act.put, List.setIfInBounds_toArray, List.set_cons_zero, List.set_cons_succ]
            refine wpAnyH_take (i := 19) (v := undef) (by (simp only [List.getElem?_toArray, List.getElem?_cons_succ, List.getElem?_cons_zero]; rfl)) (by kernel_rfl) (by kernel_rfl) (by kernel_rfl) (by intro _ _ _ h; exact h) (Or.inr ⟨by rfl, rfl⟩) (by assumption) ?_
            simp only [Act.put, List.setIfInBounds_toArray, List.set_cons_zero, List.set_cons_succ]
            refine wpAnyH_take (i := 20) (v := undef) (by (simp only [List.getElem?_toArray, List.getElem?_cons_succ, List.getElem?_cons_zero]; rfl)) (by kernel_rfl) (by kernel_rfl) (by kernel_rfl) (by intro _ _ _ h; exact h) (Or.inr ⟨by rfl, rfl⟩) (by assumption) ?_
            simp only [Act.put, List.setIfInBounds_toArray, List.set_cons_zero, List.set_cons_succ]
            refine wpAnyH_take (i := 21) (v := ?_) (by (simp only [List.getElem?_toArray, List.getElem?_cons_succ, List.getElem?_cons_zero]; rfl)) (by kernel_rfl) (by kernel_rfl) (by kernel_rfl) (by intro _ _ _ h; exact h) (Or.inl ⟨by rfl, ?_⟩) (by assumption) ?_
            rotate_left
            · (intro w hSw; (try dsimp only at hSw); go_simp; try (with_reducible rfl))
            simp only [Act.put, List.setIfInBounds_toArray, List.set_cons_zero, List.set_cons_succ]
            refine wpAnyH_take (i := 22) (v := ?_) (by (simp only [List.getElem?_toArray, List.getElem?_cons_succ, List.getElem?_cons_zero]; rfl)) (by kernel_rfl) (by kernel_rfl) (by kernel_rfl) (by intro _ _ _ h; exact h) (Or.inl ⟨by rfl, ?_⟩) (by assumption) ?_
            rotate_left
            · (intro w hSw; (try dsimp only at hSw); go_simp; try (with_reducible rfl))
            simp only [Act.put, List.setIfInBounds_toArray, List.set_cons_zero, List.set_cons_succ]
            refine wpAnyH_done (by kernel_rfl) ?_ _
            go_upto_region 27 with fail
            have HF := Lib.hid (show goM (i + 1 + 1) (L.drop (i + 1)) ⟨st.rg, st.ra, st.rv, st.pins ++ [p], st.ended⟩ = parseL s.data.toList by rw [← HG1.out]; exact (go_on HH0.out HTK.out).symm)
            have HOK6 := Lib.hid (take_okS (by omega) HTK.out HOK.out)
            have HPP5 := Lib.hid (show PinIn w4.drew P p from HPP.out)
            clear f0 f1 f2 f3 r0 r1 r2 r3 g0 g1 g2 g3 o0 o1 o2 o3 q0 q1 q2 q3 q4 q5
            generalize w4.drew = w5 at HLK5 HZ5 HBW5 HPP5 ⊢
            have g3 := HLK5.out.frozen 3
            obtain ⟨o0, o1, o2, o3⟩ := HLK5.out.cells
            obtain ⟨q0, q1, q2, q3, q4, q5⟩ := HPP5.out
            go_wp2_with (at_builtin
                         refine app6p p rfl _ _ 24 42 rfl _ 88 (wL.heap.size + 1) st.pins.length Tryd.underlying24 pn_info rfl (.slice pa st.pins.length pc) _ rfl HLK5.out.2 rfl (by omega) (by omega) HLK5.out.lt ?_)
            intro v6 w6 ho hg hne
            obtain ⟨gb, gc, rfl, _, _⟩ := ho.form (by omega)
            have hx6 : w6.heap[wL.heap.size]? = _ := (hg.block wL.heap.size HLK5.out.lt (fun e => by have := (HLK5.out.2.lt wL.heap.size e.symm).1; omega)).trans HLK5.out.1
            have hz6 : LZ w6 w.heap.size := (hg.block w.heap.size (by have := HLK5.out.lt; omega) (fun e => by have := (HLK5.out.2.lt w.heap.size e.symm).1; omega)).trans HZ5.out
            have HLK6 := Lib.hid (HLK5.out.push (p := p) ho hg)
            have HZ6 := Lib.hid (hz6.set hWL 3 (.slice (some ⟨gb, 0, none⟩) (st.pins.length + 1) gc))
            have HBW6 := Lib.hid (show Below wL.heap.size wL (w6.setCell ⟨wL.heap.size, 3, none⟩ (.slice (some ⟨gb, 0, none⟩) (st.pins.length + 1) gc)) from (HBW5.out.trans (HLK5.out.grown hg)).setCell (Nat.le_refl _) _)
            have e3 : w6.frozen? ⟨wL.heap.size, 3, none⟩ = false := frozen_of_row w6 _ 3 _ _ hx6
            have x3 : w6.cell? ⟨wL.heap.size, 3, none⟩ = some (.slice pa st.pins.length pc) := by rw [cell_of_row w6 _ 3 _ _ (0, 0) hx6]; rfl
            clear g3 o0 o1 o2 o3 q0 q1 q2 q3 q4 q5 hx6 hz6 ho hg hne
            go_wp2_with fail
            clear e3 x3
            go_roundw
            case rel => exact ⟨i + 1, ⟨st.rg, st.ra, st.rv, st.pins ++ [p], st.ended⟩, _, by go_num, by omega, HF.out, HEN.out, HOK6.out, HLK6.out, HZ6.out, HBW6.out⟩
            case measure => simp [intOf]; omega
          have hgb : decide ((0 : Int) < (st.pins.length : Int)) = true := decide_eq_true (by omega)
          have hgb2 : decide (0 < st.pins.length) = true := decide_eq_true (by omega)
          obtain ⟨j, hj⟩ : ∃ j, st.pins.length = j + 1 := ⟨st.pins.length - 1, by omega⟩
          obtain ⟨q, hq⟩ : ∃ q, st.pins[j]? = some q := ⟨_, List.getElem?_eq_getElem (by omega)⟩
          have hpv : prevR st.pins p = decide (kcmp q.key p.key < 0) := by unfold prevR; rw [decide_eq_false hn0, hj]; simp [hq, prevB]
          have HLK5 := Lib.hid (show LK w4.drew wL.heap.size st _ from HLK4.out)
          have HZ5 := Lib.hid (show LZ w4.drew w.heap.size from HZ4.out)
          have HBW5 := Lib.hid HBW4.out.drew
          have HBX5 := Lib.hid HBX4.out.drew
          have hrd : RdN w4 (.slice pa st.pins.length pc) st.pins := RdN.of_own HLK4.out.2
          obtain ⟨bq, rfl, _, _, _, hcq⟩ := hrd.elem hq
          obtain ⟨m0, m1, m2, m3, _, _⟩ := RdN.at hcq hq (Below.refl w4.heap.size w4) (Nat.le_refl _)
          have hcp := fun w => refCompare6_any q.key p.key w
          have hrng := kcmp_ord.rng q.key p.key
          rw [hpv] at HST
          generalize kcmp q.key p.key = kn at hcp hrng HST
          have HRNG := Lib.hid hrng
          unfold K4.val keyV Pn.key at hcp
          have HCP := Lib.hid hcp
          have hjI : (j : Int) < st.pins.length := by omega
          have hI2 : IntKind.i64.wrap ((st.pins.length : Int) - 1) = (j : Int) := by rw [IntWalk.i64_in _ (by omega)]; omega
          have HN4 := Lib.hid hn4
          clear hcp hrng hpv hq hrd hcq hj hn0 hn4
          go_upto_region 25 with fail
          go_region_held3 (fun w' => w'.cell? ⟨P, 0, none⟩ = some (.string p.g) ∧ w'.cell? ⟨P, 1, none⟩ = some (.string p.a) ∧ w'.cell? ⟨P, 2, none⟩ = some (.string p.t) ∧ w'.cell? ⟨P, 3, none⟩ = some (.string p.c) ∧ w'.cell? ⟨P, 4, none⟩ = some (.string p.v) ∧ w'.cell? ⟨P, 5, none⟩ = some (.int .i64 p.sc) ∧ w'.cell? (bq.add (j * 6)) = some (.string q.g) ∧ w'.cell? ⟨(bq.add (j * 6)).block, (bq.add (j * 6)).off + 1, none⟩ = some (.string q.a) ∧ w'.cell? ⟨(bq.add (j * 6)).block, (bq.add (j * 6)).off + 2, none⟩ = some (.string q.t) ∧ w'.cell? ⟨(bq.add (j * 6)).block, (bq.add (j * 6)).off + 3, none⟩ = some (.string q.c) ∧ w'.cell? ⟨wL.heap.size, 3, none⟩ = some (.slice (some bq) st.pins.length pc) ∧ Below w4.heap.size w4 w')
            (first | with_reducible exact keep11d ⟨q0, q1, q2, q3, q4, q5, m0, m1, m2, m3, o3, hba⟩ | with_reducible exact keep11p (by assumption) (by assumption))
            (first | (go_at_call 22; (with_reducible refine (HCP.out _).mono ?_); rintro e wq ⟨rfl, hbq⟩))
          have HBQ := Lib.hid (keep11b (by assumption))
          have HLK5 := Lib.hid (HLK4.out.below HBQ.out)
          have HZ5 := Lib.hid (HZ4.out.below HBQ.out (by have := (Array.getElem?_eq_some_iff.1 HZ4.out).1; exact this))
          have HBW5 := Lib.hid (HBW4.out.trans (HBQ.out.mono HBW4.out.size))
          have HBX5 := Lib.hid (HBX4.out.trans (HBQ.out.mono HBX4.out.size))
          have HPP5 := Lib.hid (HPP.out.below HBQ.out (Nat.le_refl _))
          clear f0 f1 f2 f3 r0 r1 r2 r3 g0 g1 g2 g3 o0 o1 o2 o3 q0 q1 q2 q3 q4 q5 m0 m1 m2 m3 hba
          rcases HRNG.out with h | h | h
          · subst h
            have HTK := Lib.hid (show takeM (i + 1) t st = some ⟨st.rg, st.ra, st.rv, st.pins ++ [p], st.ended⟩ by rw [HST.out, if_pos ⟨⟨(by first | trivial | rfl), by have := HN4.out; omega⟩, (by first | trivial | decide)⟩])
            go_upto_region 27 with fail
            have HF := Lib.hid (show goM (i + 1 + 1) (L.drop (i + 1)) ⟨st.rg, st.ra, st.rv, st.pins ++ [p], st.ended⟩ = parseL s.data.toList by rw [← HG1.out]; exact (go_on HH0.out HTK.out).symm)
            have HOK6 := Lib.hid (take_okS (by omega) HTK.out HOK.out)
            have g3 := HLK5.out.frozen 3
            obtain ⟨o0, o1, o2, o3⟩ := HLK5.out.cells
            obtain ⟨q0, q1, q2, q3, q4, q5⟩ := HPP5.out
            go_wp2_with (at_builtin
                         refine app6p p rfl _ _ 24 42 rfl _ 88 (wL.heap.size + 1) st.pins.length Tryd.underlying24 pn_info rfl (.slice (some bq) st.pins.length pc) _ rfl HLK5.out.2 rfl (by omega) (by omega) HLK5.out.lt ?_)
            intro v6 w6 ho hg hne
            obtain ⟨gb, gc, rfl, _, _⟩ := ho.form (by omega)
            have hx6 : w6.heap[wL.heap.size]? = _ := (hg.block wL.heap.size HLK5.out.lt (fun e => by have := (HLK5.out.2.lt wL.heap.size e.symm).1; omega)).trans HLK5.out.1
            have hz6 : LZ w6 w.heap.size := (hg.block w.heap.size (by have := HLK5.out.lt; omega) (fun e => by have := (HLK5.out.2.lt w.heap.size e.symm).1; omega)).trans HZ5.out
            have HLK6 := Lib.hid (HLK5.out.push (p := p) ho hg)
            have HZ6 := Lib.hid (hz6.set hWL 3 (.slice (some ⟨gb, 0, none⟩) (st.pins.length + 1) gc))
            have HBW6 := Lib.hid (show Below wL.heap.size wL (w6.setCell ⟨wL.heap.size, 3, none⟩ (.slice (some ⟨gb, 0, none⟩) (st.pins.length + 1) gc)) from (HBW5.out.trans (HLK5.out.grown hg)).setCell (Nat.le_refl _) _)
            have e3 : w6.frozen? ⟨wL.heap.size, 3, none⟩ = false := frozen_of_row w6 _ 3 _ _ hx6
            have x3 : w6.cell? ⟨wL.heap.size, 3, none⟩ = some (.slice (some bq) st.pins.length pc) := by rw [cell_of_row w6 _ 3 _ _ (0, 0) hx6]; rfl
            clear g3 o0 o1 o2 o3 q0 q1 q2 q3 q4 q5 hx6 hz6 ho hg hne
            go_wp2_with fail
            clear e3 x3
            go_roundw
            case rel => exact ⟨i + 1, ⟨st.rg, st.ra, st.rv, st.pins ++ [p], st.ended⟩, _, by go_num, by omega, HF.out, HEN.out, HOK6.out, HLK6.out, HZ6.out, HBW6.out⟩
            case measure => simp [intOf]; omega
          · subst h
            have HF := Lib.hid (show parseL s.data.toList = .inl (i + 1) by rw [← HG1.out]; exact go_bad HH0.out (by rw [HST.out, if_neg (fun h => by have := h.2; simp at this)]))
            have f0 := HZ5.out.frozen 0
            have f1 := HZ5.out.frozen 1
            have f2 := HZ5.out.frozen 2
            have f3 := HZ5.out.frozen 3
            obtain ⟨r0, r1, r2, r3⟩ := HZ5.out.cells
            have g0 := HLK5.out.frozen 0
            have g1 := HLK5.out.frozen 1
            have g2 := HLK5.out.frozen 2
            have g3 := HLK5.out.frozen 3
            obtain ⟨o0, o1, o2, o3⟩ := HLK5.out.cells
            go_wp2
            refine bodyPost_ret (refparse_results _ _ w.heap.size _ _ _ _ _ rfl rfl (row_set4 _ _ _ _ HZ5.out)) rfl ?_
            exact .inr ⟨i + 1, HF.out, by omega, by first | rfl | (push_cast; rfl), below_set4 HBX5.out _ _ _ _⟩
          · subst h
            have HF := Lib.hid (show parseL s.data.toList = .inl (i + 1) by rw [← HG1.out]; exact go_bad HH0.out (by rw [HST.out, if_neg (fun h => by have := h.2; simp at this)]))
            have f0 := HZ5.out.frozen 0
            have f1 := HZ5.out.frozen 1
            have f2 := HZ5.out.frozen 2
            have f3 := HZ5.out.frozen 3
            obtain ⟨r0, r1, r2, r3⟩ := HZ5.out.cells
            have g0 := HLK5.out.frozen 0
            have g1 := HLK5.out.frozen 1
            have g2 := HLK5.out.frozen 2
            have g3 := HLK5.out.frozen 3
            obtain ⟨o0, o1, o2, o3⟩ := HLK5.out.cells
            go_wp2
            refine bodyPost_ret (refparse_results _ _ w.heap.size _ _ _ _ _ rfl rfl (row_set4 _ _ _ _ HZ5.out)) rfl ?_
            exact .inr ⟨i + 1, HF.out, by omega, by first | rfl | (push_cast; rfl), below_set4 HBX5.out _ _ _ _⟩

      · have hlb : ((i : Int) == (L.length : Int) - 1) = false := beq_false_of_ne (by omega)
        have HH0 := Lib.hid (show L.drop (i + 1) = [] → t ≠ [] from fun h => by have := congrArg List.length h; rw [List.length_drop, List.length_nil] at this; omega)
        by_cases hi0 : i = 0
        · have hb0 : ((i : Int) == 0) = true := beq_iff_eq.2 (by omega)
          by_cases hw : t = wFirst
          · have hwb := str_is hw
            unfold wFirst at hwb
            have HF := Lib.hid (show goM (i + 1 + 1) (L.drop (i + 1)) st = parseL s.data.toList by rw [← HG1.out]; subst hi0; exact (go_on HH0.out (by rw [take_firstR, if_pos hw])).symm)
            clear hw hi0
            go_wp2_with fail
            go_roundw
            case rel => exact ⟨i + 1, st, _, by go_num, by omega, HF.out, HEN.out, HOK.out, HLK.out, HZ.out, HBW.out⟩
            case measure => simp [intOf]; omega
          · have hwb := str_isnt hw
            unfold wFirst at hwb
            have HF := Lib.hid (show parseL s.data.toList = .inl 1 by rw [← HG1.out]; subst hi0; exact go_bad HH0.out (by rw [take_firstR, if_neg hw]))
            clear hw hi0
            go_wp2
            refine bodyPost_ret (refparse_results _ _ w.heap.size _ _ _ _ _ rfl rfl (row_set4 _ _ _ _ HZ.out)) rfl ?_
            exact .inr ⟨1, HF.out, by omega, by first | rfl | (push_cast; rfl), below_set4 HBX.out _ _ _ _⟩
        have hb0 : ((i : Int) == 0) = false := beq_false_of_ne (by omega)
        by_cases hi1 : i = 1
        · have hb1 : ((i : Int) == 1) = true := beq_iff_eq.2 (by omega)
          have htk : (str t).size ≤ 3000 := by rw [size_str]; exact htl
          have HPC := Lib.hid (fun w => Pieces_any (str t) htk w)
          by_cases k3 : (pcd 58 t).length = 3
          case neg =>
            have hl3 := ne3 k3
            have HF := Lib.hid (show parseL s.data.toList = .inl 2 by rw [← HG1.out]; subst hi1; exact go_bad HH0.out (by rw [root_step HEN.out]; unfold rootR; match h : pcd 58 t, k3 with | [], _ => rfl | [_], _ => rfl | [_, _], _ => rfl | _ :: _ :: _ :: _ :: _, _ => rfl))
            clear hi0 hi1 k3
            go_wp2_with fail
            refine (HPC.out _).mono ?_
            rintro e w2 ⟨kv, rfl, hsk, hb2⟩
            obtain ⟨sa, kcap, rfl, hl1, hl2, -⟩ := hsk
            rw [str_data] at hl1
            have HZ2 := Lib.hid (HZ.out.below hb2 (by have := (Array.getElem?_eq_some_iff.1 HZ.out).1; exact this))
            have HLK2 := Lib.hid (HLK.out.below hb2)
            have HBW2 := Lib.hid (HBW.out.trans (hb2.mono HBW.out.size))
            have HBX2 := Lib.hid (HBX.out.trans (hb2.mono HBX.out.size))
            clear f0 f1 f2 f3 r0 r1 r2 r3 o0 o1 o2 o3 hc hb2
            have f0 := HZ2.out.frozen 0
            have f1 := HZ2.out.frozen 1
            have f2 := HZ2.out.frozen 2
            have f3 := HZ2.out.frozen 3
            obtain ⟨r0, r1, r2, r3⟩ := HZ2.out.cells
            have g0 := HLK2.out.frozen 0
            have g1 := HLK2.out.frozen 1
            have g2 := HLK2.out.frozen 2
            have g3 := HLK2.out.frozen 3
            obtain ⟨o0, o1, o2, o3⟩ := HLK2.out.cells
            try rw [str_data]
            go_wp2
            refine bodyPost_ret (refparse_results _ _ w.heap.size _ _ _ _ _ rfl rfl (row_set4 _ _ _ _ HZ2.out)) rfl ?_
            exact .inr ⟨2, HF.out, by omega, by first | rfl | (push_cast; rfl), below_set4 HBX2.out _ _ _ _⟩
          obtain ⟨x, a, v, hp⟩ : ∃ x a v, pcd 58 t = [x, a, v] := by
            match pcd 58 t, k3 with
            | [x, a, v], _ => exact ⟨x, a, v, rfl⟩
          have hpl := pcd_len_le (d := 58) t
          rw [hp] at hpl
          have hxl := hpl x (by simp)
          have hal := hpl a (by simp)
          have hvl := hpl v (by simp)
          clear hpl k3
          by_cases k5 : x.length < 5
          · have hk5 : ((str x).size : Int) < 5 := by rw [size_str]; omega
            have HF := Lib.hid (show parseL s.data.toList = .inl 2 by rw [← HG1.out]; subst hi1; exact go_bad HH0.out (by rw [root_step HEN.out]; unfold rootR; rw [hp]; simp only; rw [if_neg (fun h => by have := congrArg List.length h; simp [wRoot] at this; omega)]))
            clear hi0 hi1
            have HP := Lib.hid hp
            clear hp
            go_wp2_with fail
            refine (HPC.out _).mono ?_
            rintro e w2 ⟨kv, rfl, hsk, hb2⟩
            rw [str_data, HP.out] at hsk
            obtain ⟨kb, ko, kcap, rfl, d1, d2, d3, k0, k1, k2⟩ := hsk.three
            clear hsk
            have HZ2 := Lib.hid (HZ.out.below hb2 (by have := (Array.getElem?_eq_some_iff.1 HZ.out).1; exact this))
            have HLK2 := Lib.hid (HLK.out.below hb2)
            have HBW2 := Lib.hid (HBW.out.trans (hb2.mono HBW.out.size))
            have HBX2 := Lib.hid (HBX.out.trans (hb2.mono HBX.out.size))
            clear f0 f1 f2 f3 r0 r1 r2 r3 o0 o1 o2 o3 hc hb2
            have f0 := HZ2.out.frozen 0
            have f1 := HZ2.out.frozen 1
            have f2 := HZ2.out.frozen 2
            have f3 := HZ2.out.frozen 3
            obtain ⟨r0, r1, r2, r3⟩ := HZ2.out.cells
            have g0 := HLK2.out.frozen 0
            have g1 := HLK2.out.frozen 1
            have g2 := HLK2.out.frozen 2
            have g3 := HLK2.out.frozen 3
            obtain ⟨o0, o1, o2, o3⟩ := HLK2.out.cells
            go_wp2
            refine bodyPost_ret (refparse_results _ _ w.heap.size _ _ _ _ _ rfl rfl (row_set4 _ _ _ _ HZ2.out)) rfl ?_
            exact .inr ⟨2, HF.out, by omega, by first | rfl | (push_cast; rfl), below_set4 HBX2.out _ _ _ _⟩
          have hk5 : ¬ ((str x).size : Int) < 5 := by rw [size_str]; omega
          have hk5s : 5 ≤ (str x).size := by rw [size_str]; omega
          have hk5I : (5 : Int) ≤ (str x).size := by omega
          by_cases kw : x.take 5 = wRoot ++ [32]
          case neg =>
            have hx5 : (((str x).extract 0 5).toList == [114, 111, 111, 116, 32]) = false := by rw [ext_str, str_data]; exact str_isnt (by simpa [wRoot] using kw)
            have HF := Lib.hid (show parseL s.data.toList = .inl 2 by rw [← HG1.out]; subst hi1; exact go_bad HH0.out (by rw [root_step HEN.out]; unfold rootR; rw [hp]; simp only; rw [if_neg kw]))
            clear hi0 hi1 kw
            have HP := Lib.hid hp
            clear hp
            go_wp2_with fail
            refine (HPC.out _).mono ?_
            rintro e w2 ⟨kv, rfl, hsk, hb2⟩
            rw [str_data, HP.out] at hsk
            obtain ⟨kb, ko, kcap, rfl, d1, d2, d3, k0, k1, k2⟩ := hsk.three
            clear hsk
            have HZ2 := Lib.hid (HZ.out.below hb2 (by have := (Array.getElem?_eq_some_iff.1 HZ.out).1; exact this))
            have HLK2 := Lib.hid (HLK.out.below hb2)
            have HBW2 := Lib.hid (HBW.out.trans (hb2.mono HBW.out.size))
            have HBX2 := Lib.hid (HBX.out.trans (hb2.mono HBX.out.size))
            clear f0 f1 f2 f3 r0 r1 r2 r3 o0 o1 o2 o3 hc hb2
            have f0 := HZ2.out.frozen 0
            have f1 := HZ2.out.frozen 1
            have f2 := HZ2.out.frozen 2
            have f3 := HZ2.out.frozen 3
            obtain ⟨r0, r1, r2, r3⟩ := HZ2.out.cells
            have g0 := HLK2.out.frozen 0
            have g1 := HLK2.out.frozen 1
            have g2 := HLK2.out.frozen 2
            have g3 := HLK2.out.frozen 3
            obtain ⟨o0, o1, o2, o3⟩ := HLK2.out.cells
            go_wp2
            refine bodyPost_ret (refparse_results _ _ w.heap.size _ _ _ _ _ rfl rfl (row_set4 _ _ _ _ HZ2.out)) rfl ?_
            exact .inr ⟨2, HF.out, by omega, by first | rfl | (push_cast; rfl), below_set4 HBX2.out _ _ _ _⟩
          have hx5 : (((str x).extract 0 5).toList == [114, 111, 111, 116, 32]) = true := by rw [ext_str, str_data]; exact str_is (by simpa [wRoot] using kw)
          have hx6 : (str x).extract 5 (str x).size = str (x.drop 5) := by rw [ext_str, str_data, size_str, List.take_length]
          have HRR := Lib.hid (show takeM 2 t st = if mayGav (str (x.drop 5)) (str a) (str v) = true then some ⟨str (x.drop 5), str a, str v, st.pins, st.ended⟩ else none by rw [root_step HEN.out]; unfold rootR; rw [hp]; simp only; rw [if_pos kw])
          have HMG := Lib.hid (fun w => refMayGav_any (str (x.drop 5)) (str a) (str v) (by rw [size_str, List.length_drop]; omega) (by rw [size_str]; omega) (by rw [size_str]; omega) w)
          have HI1 := Lib.hid hi1
          clear kw hi0 hi1
          unfold gavV at HMG
          generalize mayGav (str (x.drop 5)) (str a) (str v) = m at HMG HRR
          have HP := Lib.hid hp
          clear hp
          go_wp2_with fail
          refine (HPC.out _).mono ?_
          rintro e w2 ⟨kv, rfl, hsk, hb2⟩
          rw [str_data, HP.out] at hsk
          obtain ⟨kb, ko, kcap, rfl, d1, d2, d3, k0, k1, k2⟩ := hsk.three
          clear hsk
          have HZ2 := Lib.hid (HZ.out.below hb2 (by have := (Array.getElem?_eq_some_iff.1 HZ.out).1; exact this))
          have HLK2 := Lib.hid (HLK.out.below hb2)
          have HBW2 := Lib.hid (HBW.out.trans (hb2.mono HBW.out.size))
          have HBX2 := Lib.hid (HBX.out.trans (hb2.mono HBX.out.size))
          clear f0 f1 f2 f3 r0 r1 r2 r3 o0 o1 o2 o3 hc hb2
          have f0 := HZ2.out.frozen 0
          have f1 := HZ2.out.frozen 1
          have f2 := HZ2.out.frozen 2
          have f3 := HZ2.out.frozen 3
          obtain ⟨r0, r1, r2, r3⟩ := HZ2.out.cells
          have g0 := HLK2.out.frozen 0
          have g1 := HLK2.out.frozen 1
          have g2 := HLK2.out.frozen 2
          have g3 := HLK2.out.frozen 3
          obtain ⟨o0, o1, o2, o3⟩ := HLK2.out.cells
          go_upto_region 16 with fail
          go_region
          have HLK4 := Lib.hid (show LK (((w2.setCell ⟨wL.heap.size, 0, none⟩ (.string (str (x.drop 5)))).setCell ⟨wL.heap.size, 1, none⟩ (.string (str a))).setCell ⟨wL.heap.size, 2, none⟩ (.string (str v))).drew wL.heap.size ⟨str (x.drop 5), str a, str v, st.pins, st.ended⟩ (.slice pa st.pins.length pc) from (HLK2.out.set3 (str (x.drop 5)) (str a) (str v)))
          have HZ4 := Lib.hid (show LZ (((w2.setCell ⟨wL.heap.size, 0, none⟩ (.string (str (x.drop 5)))).setCell ⟨wL.heap.size, 1, none⟩ (.string (str a))).setCell ⟨wL.heap.size, 2, none⟩ (.string (str v))).drew w.heap.size from LZ.set (LZ.set (LZ.set HZ2.out hWL 0 _) hWL 1 _) hWL 2 _)
          have HBW4 := Lib.hid (show Below wL.heap.size wL (((w2.setCell ⟨wL.heap.size, 0, none⟩ (.string (str (x.drop 5)))).setCell ⟨wL.heap.size, 1, none⟩ (.string (str a))).setCell ⟨wL.heap.size, 2, none⟩ (.string (str v))).drew from (((HBW2.out.setCell (Nat.le_refl _) _).setCell (Nat.le_refl _) _).setCell (Nat.le_refl _) _).drew)
          have HBX4 := Lib.hid (show Below w.heap.size w (((w2.setCell ⟨wL.heap.size, 0, none⟩ (.string (str (x.drop 5)))).setCell ⟨wL.heap.size, 1, none⟩ (.string (str a))).setCell ⟨wL.heap.size, 2, none⟩ (.string (str v))).drew from (((HBX2.out.setCell (Nat.le_of_lt hWL) _).setCell (Nat.le_of_lt hWL) _).setCell (Nat.le_of_lt hWL) _).drew)
          generalize (((w2.setCell ⟨wL.heap.size, 0, none⟩ (.string (str (x.drop 5)))).setCell ⟨wL.heap.size, 1, none⟩ (.string (str a))).setCell ⟨wL.heap.size, 2, none⟩ (.string (str v))).drew = w4 at HLK4 HZ4 HBW4 HBX4 ⊢
          clear f0 f1 f2 f3 r0 r1 r2 r3 g0 g1 g2 g3 o0 o1 o2 o3 d1 d2 d3 k0 k1 k2
          have f0 := HZ4.out.frozen 0
          have f1 := HZ4.out.frozen 1
          have f2 := HZ4.out.frozen 2
          have f3 := HZ4.out.frozen 3
          obtain ⟨r0, r1, r2, r3⟩ := HZ4.out.cells
          have g0 := HLK4.out.frozen 0
          have g1 := HLK4.out.frozen 1
          have g2 := HLK4.out.frozen 2
          have g3 := HLK4.out.frozen 3
          obtain ⟨o0, o1, o2, o3⟩ := HLK4.out.cells
          simp only at o0 o1 o2 o3
          go_wp2_with fail
          refine (HMG.out _).mono ?_
          rintro e w5 ⟨rfl, hb5⟩
          have HZ5 := Lib.hid (HZ4.out.below hb5 (by have := (Array.getElem?_eq_some_iff.1 HZ4.out).1; exact this))
          have HLK5 := Lib.hid (HLK4.out.below hb5)
          have HBW5 := Lib.hid (HBW4.out.trans (hb5.mono HBW4.out.size))
          have HBX5 := Lib.hid (HBX4.out.trans (hb5.mono HBX4.out.size))
          clear f0 f1 f2 f3 r0 r1 r2 r3 g0 g1 g2 g3 o0 o1 o2 o3 hb5
          have f0 := HZ5.out.frozen 0
          have f1 := HZ5.out.frozen 1
          have f2 := HZ5.out.frozen 2
          have f3 := HZ5.out.frozen 3
          obtain ⟨r0, r1, r2, r3⟩ := HZ5.out.cells
          have g0 := HLK5.out.frozen 0
          have g1 := HLK5.out.frozen 1
          have g2 := HLK5.out.frozen 2
          have g3 := HLK5.out.frozen 3
          obtain ⟨o0, o1, o2, o3⟩ := HLK5.out.cells
          cases m
          · have HF := Lib.hid (show parseL s.data.toList = .inl 2 by rw [← HG1.out]; have hi1 := HI1.out; subst hi1; exact go_bad HH0.out (by rw [HRR.out]; simp))
            go_wp2
            refine bodyPost_ret (refparse_results _ _ w.heap.size _ _ _ _ _ rfl rfl (row_set4 _ _ _ _ HZ5.out)) rfl ?_
            exact .inr ⟨2, HF.out, by omega, by first | rfl | (push_cast; rfl), below_set4 HBX5.out _ _ _ _⟩
          · have HF := Lib.hid (show goM (i + 1 + 1) (L.drop (i + 1)) ⟨str (x.drop 5), str a, str v, st.pins, st.ended⟩ = parseL s.data.toList by rw [← HG1.out]; have hi1 := HI1.out; subst hi1; exact (go_on HH0.out (by rw [HRR.out]; simp)).symm)
            clear f0 f1 f2 f3 r0 r1 r2 r3 g0 g1 g2 g3 o0 o1 o2 o3
            go_wp2_with fail
            go_roundw
            case rel => exact ⟨i + 1, ⟨str (x.drop 5), str a, str v, st.pins, st.ended⟩, _, by go_num, by omega, HF.out, HEN.out, HOK.out, HLK5.out, HZ5.out, HBW5.out⟩
            case measure => simp [intOf]; omega
        have hb1 : ((i : Int) == 1) = false := beq_false_of_ne (by omega)
        have hi2 : 2 ≤ i := by omega
        have hpl4 : st.pins.length ≤ 4096 := HOK.out.2
        have HNM := Lib.hid (fun w => Number_any st.pins.length (by omega) w)
        have hil : (Lib.itoa (st.pins.length : Int)).length ≤ 21 := by rw [itoa_nat]; exact dec_len _ (by omega)
        have hcat : (⟨#[101, 110, 100, 32]⟩ : ByteArray) ++ str (Lib.itoa st.pins.length) = str (endLine st.pins.length) := app_str [101, 110, 100, 32] _
        have hno : ¬ (9223372036854775807 < (⟨#[101, 110, 100, 32]⟩ : ByteArray).size + (str (Lib.itoa st.pins.length)).size) := by rw [size_str]; show ¬ (9223372036854775807 < 4 + _); omega
        clear hi0 hi1
        by_cases hend : t = endLine st.pins.length
        · have hte : ((str t).toList == (str (endLine st.pins.length)).toList) = true := by rw [hend]; simp
          by_cases hn2 : i + 2 = L.length
          case neg =>
            have hnb : ((i : Int) + 2 != (L.length : Int)) = true := by simpa using (show ¬ (i : Int) + 2 = L.length by omega)
            have HF := Lib.hid (show parseL s.data.toList = .inl (i + 2) by rw [← HG1.out, hend, go_end (by omega) HEN.out, if_neg (fun h => by have := congrArg List.length h; rw [List.length_drop] at this; simp at this; omega)])
            clear hend
            go_wp2_with fail
            refine (HNM.out _).mono ?_
            rintro e w2 ⟨rfl, hb2⟩
            have HZ2 := Lib.hid (HZ.out.below hb2 (by have := (Array.getElem?_eq_some_iff.1 HZ.out).1; exact this))
            have HLK2 := Lib.hid (HLK.out.below hb2)
            have HBW2 := Lib.hid (HBW.out.trans (hb2.mono HBW.out.size))
            have HBX2 := Lib.hid (HBX.out.trans (hb2.mono HBX.out.size))
            clear f0 f1 f2 f3 r0 r1 r2 r3 o0 o1 o2 o3 hc hb2
            have f0 := HZ2.out.frozen 0
            have f1 := HZ2.out.frozen 1
            have f2 := HZ2.out.frozen 2
            have f3 := HZ2.out.frozen 3
            obtain ⟨r0, r1, r2, r3⟩ := HZ2.out.cells
            have g0 := HLK2.out.frozen 0
            have g1 := HLK2.out.frozen 1
            have g2 := HLK2.out.frozen 2
            have g3 := HLK2.out.frozen 3
            obtain ⟨o0, o1, o2, o3⟩ := HLK2.out.cells
            go_wp2
            refine bodyPost_ret (refparse_results _ _ w.heap.size _ _ _ _ _ rfl rfl (row_set4 _ _ _ _ HZ2.out)) rfl ?_
            exact .inr ⟨i + 2, HF.out, by omega, by first | rfl | (push_cast; rfl), below_set4 HBX2.out _ _ _ _⟩
          have hnb : ((i : Int) + 2 != (L.length : Int)) = false := by simpa using (show (i : Int) + 2 = L.length by omega)
          obtain ⟨t2, ht2⟩ : ∃ t2, L[i + 1]? = some t2 := ⟨_, List.getElem?_eq_getElem (by omega)⟩
          have hd2 : L.drop (i + 1) = [t2] := by
            rw [List.drop_eq_getElem_cons (by omega), List.drop_eq_nil_of_le (by omega)]
            congr 1
            exact (List.getElem_eq_iff (by omega)).2 ht2
          have hcL := HCL.out (i + 1) t2 ht2
          have hn2I : (i : Int) + 1 < L.length := by omega
          by_cases hz2 : t2 = []
          case neg =>
            have hzb := str_isnt hz2
            have HF := Lib.hid (show parseL s.data.toList = .inl (i + 2) by rw [← HG1.out, hend, go_end (by omega) HEN.out, if_neg (by rw [hd2]; simpa using hz2)])
            clear hend hz2 hd2 ht2
            go_wp2_with fail
            refine (HNM.out _).mono ?_
            rintro e w2 ⟨rfl, hb2⟩
            have hc2 : w2.cell? ⟨b, off + (i + 1), none⟩ = some (.string (str t2)) := below_cell (HBW.out.trans (hb2.mono HBW.out.size)) (p := ⟨b, off + (i + 1), none⟩) c3 hcL
            clear hcL
            have HZ2 := Lib.hid (HZ.out.below hb2 (by have := (Array.getElem?_eq_some_iff.1 HZ.out).1; exact this))
            have HLK2 := Lib.hid (HLK.out.below hb2)
            have HBW2 := Lib.hid (HBW.out.trans (hb2.mono HBW.out.size))
            have HBX2 := Lib.hid (HBX.out.trans (hb2.mono HBX.out.size))
            clear f0 f1 f2 f3 r0 r1 r2 r3 o0 o1 o2 o3 hc hb2
            have f0 := HZ2.out.frozen 0
            have f1 := HZ2.out.frozen 1
            have f2 := HZ2.out.frozen 2
            have f3 := HZ2.out.frozen 3
            obtain ⟨r0, r1, r2, r3⟩ := HZ2.out.cells
            have g0 := HLK2.out.frozen 0
            have g1 := HLK2.out.frozen 1
            have g2 := HLK2.out.frozen 2
            have g3 := HLK2.out.frozen 3
            obtain ⟨o0, o1, o2, o3⟩ := HLK2.out.cells
            go_wp2
            refine bodyPost_ret (refparse_results _ _ w.heap.size _ _ _ _ _ rfl rfl (row_set4 _ _ _ _ HZ2.out)) rfl ?_
            exact .inr ⟨i + 2, HF.out, by omega, by first | rfl | (push_cast; rfl), below_set4 HBX2.out _ _ _ _⟩
          have hzb := str_is hz2
          have HF := Lib.hid (show parseL s.data.toList = .inr ⟨st.rg, st.ra, st.rv, st.pins, true⟩ by rw [← HG1.out, hend, go_end (by omega) HEN.out, if_pos (by rw [hd2, hz2])])
          clear hend hz2 hd2 ht2
          go_wp2_with fail
          refine (HNM.out _).mono ?_
          rintro e w2 ⟨rfl, hb2⟩
          have hc2 : w2.cell? ⟨b, off + (i + 1), none⟩ = some (.string (str t2)) := below_cell (HBW.out.trans (hb2.mono HBW.out.size)) (p := ⟨b, off + (i + 1), none⟩) c3 hcL
          clear hcL
          have HZ2 := Lib.hid (HZ.out.below hb2 (by have := (Array.getElem?_eq_some_iff.1 HZ.out).1; exact this))
          have HLK2 := Lib.hid (HLK.out.below hb2)
          have HBW2 := Lib.hid (HBW.out.trans (hb2.mono HBW.out.size))
          have HBX2 := Lib.hid (HBX.out.trans (hb2.mono HBX.out.size))
          clear f0 f1 f2 f3 r0 r1 r2 r3 o0 o1 o2 o3 hc hb2
          have f0 := HZ2.out.frozen 0
          have f1 := HZ2.out.frozen 1
          have f2 := HZ2.out.frozen 2
          have f3 := HZ2.out.frozen 3
          obtain ⟨r0, r1, r2, r3⟩ := HZ2.out.cells
          have g0 := HLK2.out.frozen 0
          have g1 := HLK2.out.frozen 1
          have g2 := HLK2.out.frozen 2
          have g3 := HLK2.out.frozen 3
          obtain ⟨o0, o1, o2, o3⟩ := HLK2.out.cells
          go_wp2
          refine bodyPost_ret (refparse_results _ _ w.heap.size _ _ _ _ _ rfl rfl (row_set4 _ _ _ _ HZ2.out)) rfl ?_
          exact .inl ⟨_, _, HF.out, rfl, RdN.of_own (own_set4 HLK2.out.2 (by omega) _ _ _ _), below_set4 HBX2.out _ _ _ _⟩
        have hte : ((str t).toList == (str (endLine st.pins.length)).toList) = false := by rw [str_list, str_list]; exact beq_false_of_ne hend
        have htk : (str t).size ≤ 3000 := by rw [size_str]; exact htl
        have HST := Lib.hid (pin_step (n := i + 1) (by omega) HEN.out hend)
        have HPN := Lib.hid (fun w => refPin_any (str t) htk w)
        unfold PinPost pnV at HPN
        rw [str_data] at HPN
        generalize pinR t = pr at HPN HST
        obtain ⟨p, ok⟩ := pr
        simp only at HPN HST
        clear hend
        go_wp2_with fail
        refine (HNM.out _).mono ?_
        rintro e w2 ⟨rfl, hb2⟩
        have HZ2 := Lib.hid (HZ.out.below hb2 (by have := (Array.getElem?_eq_some_iff.1 HZ.out).1; exact this))
        have HLK2 := Lib.hid (HLK.out.below hb2)
        have HBW2 := Lib.hid (HBW.out.trans (hb2.mono HBW.out.size))
        have HBX2 := Lib.hid (HBX.out.trans (hb2.mono HBX.out.size))
        clear f0 f1 f2 f3 r0 r1 r2 r3 o0 o1 o2 o3 hc hb2
        have f0 := HZ2.out.frozen 0
        have f1 := HZ2.out.frozen 1
        have f2 := HZ2.out.frozen 2
        have f3 := HZ2.out.frozen 3
        obtain ⟨r0, r1, r2, r3⟩ := HZ2.out.cells
        have g0 := HLK2.out.frozen 0
        have g1 := HLK2.out.frozen 1
        have g2 := HLK2.out.frozen 2
        have g3 := HLK2.out.frozen 3
        obtain ⟨o0, o1, o2, o3⟩ := HLK2.out.cells
        go_wp2_with fail
        refine (HPN.out _).mono ?_
        rintro e w3 ⟨rfl, hb3⟩
        have hb4 : Below w2.heap.size w2 (w3.alloc (.cells #[.string p.g, .string p.a, .string p.t, .string p.c, .string p.v, .int .i64 p.sc] 42)) := hb3.trans (((Below.refl _ w3).alloc (Nat.le_refl _) _).mono hb3.size)
        have HPP := Lib.hid (PinIn.new w3 p)
        have HZ4 := Lib.hid (HZ2.out.below hb4 (by have := (Array.getElem?_eq_some_iff.1 HZ2.out).1; exact this))
        have HLK4 := Lib.hid (HLK2.out.below hb4)
        have HBW4 := Lib.hid (HBW2.out.trans (hb4.mono HBW2.out.size))
        have HBX4 := Lib.hid (HBX2.out.trans (hb4.mono HBX2.out.size))
        clear f0 f1 f2 f3 r0 r1 r2 r3 g0 g1 g2 g3 o0 o1 o2 o3 hb4 hb3
        go_upto_region 24 with fail
        generalize (w3.alloc (.cells #[.string p.g, .string p.a, .string p.t, .string p.c, .string p.v, .int .i64 p.sc] 42)) = w4 at HPP HZ4 HLK4 HBW4 HBX4 ⊢
        generalize w3.heap.size = P at HPP ⊢
        have f0 := HZ4.out.frozen 0
        have f1 := HZ4.out.frozen 1
        have f2 := HZ4.out.frozen 2
        have f3 := HZ4.out.frozen 3
        obtain ⟨r0, r1, r2, r3⟩ := HZ4.out.cells
        have g0 := HLK4.out.frozen 0
        have g1 := HLK4.out.frozen 1
        have g2 := HLK4.out.frozen 2
        have g3 := HLK4.out.frozen 3
        obtain ⟨o0, o1, o2, o3⟩ := HLK4.out.cells
        obtain ⟨q0, q1, q2, q3, q4, q5⟩ := HPP.out
        have hba := Below.refl w4.heap.size w4
        cases ok
        · have HF := Lib.hid (show parseL s.data.toList = .inl (i + 1) by rw [← HG1.out]; exact go_bad HH0.out (by rw [HST.out]; simp))
          have HZ5 := Lib.hid (show LZ w4.drew w.heap.size from HZ4.out)
          have HBX5 := Lib.hid HBX4.out.drew
          go_upto_region 25 with fail
          refine wp_region_held_drew (S := (fun w' => Below w4.heap.size w4 w')) (by kernel_rfl) (by (try dsimp only); (first | with_reducible exact hba.drew | with_reducible assumption)) (fun hHeld => ?_)
          refine wpAnyH_take (i := 0) (v := ?_) (by (simp only [List.getElem?_toArray, List.getElem?_cons_succ, List.getElem?_cons_zero]; rfl)) (by kernel_rfl) (by kernel_rfl) (by kernel_rfl) (by intro _ _ _ h; exact h) (Or.inl ⟨by rfl, ?_⟩) (by assumption) ?_
          rotate_left
          · (intro w hSw; (try dsimp only at hSw); go_simp; try (with_reducible rfl))
          simp only [Act.put, List.setIfInBounds_toArray, List.set_cons_zero, List.set_cons_succ]
          refine wpAnyH_take (i := 1) (v := ?_) (by (simp only [List.getElem?_toArray, List.getElem?_cons_succ, List.getElem?_cons_zero]; rfl)) (by kernel_rfl) (by kernel_rfl) (by kernel_rfl) (by intro _ _ _ h; exact h) (Or.inl ⟨by rfl, ?_⟩) (by assumption) ?_
          rotate_left
          · (intro w hSw; (try dsimp only at hSw); go_simp; try (with_reducible rfl))
          simp only [Act.put, List.setIfInBounds_toArray, List.set_cons_zero, List.set_cons_succ]
          refine wpAnyH_take (i := 2) (v := ?_) (by (simp only [List.getElem?_toArray, List.getElem?_cons_succ, List.getElem?_cons_zero]; rfl)) (by kernel_rfl) (by kernel_rfl) (by kernel_rfl) (by intro _ _ _ h; exact h) (Or.inl ⟨by rfl, ?_⟩) (by assumption) ?_
          rotate_left
          · (intro w hSw; (try dsimp only at hSw); go_simp; try (with_reducible rfl))
          simp only [Act.put, List.setIfInBounds_toArray, List.set_cons_zero, List.set_cons_succ]
          refine wpAnyH_take (i := 3) (v := undef) (by (simp only [List.getElem?_toArray, List.getElem?_cons_succ, List.getElem?_cons_zero]; rfl)) (by kernel_rfl) (by kernel_rfl) (by kernel_rfl) (by intro _ _ _ h; exact h) (Or.inr ⟨by rfl, rfl⟩) (by assumption) ?_
          simp only [Act.put, List.setIfInBounds_toArray, List.set_cons_zero, List.set_cons_succ]
          refine wpAnyH_take (i := 4) (v := undef) (by (simp only [List.getElem?_toArray, List.getElem?_cons_succ, List.getElem?_cons_zero]; rfl)) (by kernel_rfl) (by kernel_rfl) (by kernel_rfl) (by intro _ _ _ h; exact h) (Or.inr ⟨by rfl, rfl⟩) (by assumption) ?_
          simp only [Act.put, List.setIfInBounds_toArray, List.set_cons_zero, List.set_cons_succ]
          refine wpAnyH_take (i := 5) (v := ?_) (by (simp only [List.getElem?_toArray, List.getElem?_cons_succ, List.getElem?_cons_zero]; rfl)) (by kernel_rfl) (by kernel_rfl) (by kernel_rfl) (by intro _ _ _ h; exact h) (Or.inl ⟨by rfl, ?_⟩) (by assumption) ?_
          rotate_left
          · (intro w hSw; (try dsimp only at hSw); go_simp; try (with_reducible rfl))
          simp only [Act.put, List.setIfInBounds_toArray, List.set_cons_zero, List.set_cons_succ]
          refine wpAnyH_take (i := 6) (v := ?_) (by (simp only [List.getElem?_toArray, List.getElem?_cons_succ, List.getElem?_cons_zero]; rfl)) (by kernel_rfl) (by kernel_rfl) (by kernel_rfl) (by intro _ _ _ h; exact h) (Or.inl ⟨by rfl, ?_⟩) (by assumption) ?_
          rotate_left
          · (intro w hSw; (try dsimp only at hSw); go_simp; try (with_reducible rfl))
          simp only [Act.put, List.setIfInBounds_toArray, List.set_cons_zero, List.set_cons_succ]
          refine wpAnyH_take (i := 7) (v := undef) (by (simp only [List.getElem?_toArray, List.getElem?_cons_succ, List.getElem?_cons_zero]; rfl)) (by kernel_rfl) (by kernel_rfl) (by kernel_rfl) (by intro _ _ _ h; exact h) (Or.inr ⟨by rfl, rfl⟩) (by assumption) ?_
          simp only [Act.put, List.setIfInBounds_toArray, List.set_cons_zero, List.set_cons_succ]
          refine wpAnyH_take (i := 8) (v := undef) (by (simp only [List.getElem?_toArray, List.getElem?_cons_succ, List.getElem?_cons_zero]; rfl)) (by kernel_rfl) (by kernel_rfl) (by kernel_rfl) (by intro _ _ _ h; exact h) (Or.inr ⟨by rfl, rfl⟩) (by assumption) ?_
          simp only [Act.put, List.setIfInBounds_toArray, List.set_cons_zero, List.set_cons_succ]
          refine wpAnyH_take (i := 9) (v := undef) (by (simp only [List.getElem?_toArray, List.getElem?_cons_succ, List.getElem?_cons_zero]; rfl)) (by kernel_rfl) (by kernel_rfl) (by kernel_rfl) (by intro _ _ _ h; exact h) (Or.inr ⟨by rfl, rfl⟩) (by assumption) ?_
          simp only [Act.put, List.setIfInBounds_toArray, List.set_cons_zero, List.set_cons_succ]
          refine wpAnyH_take (i := 10) (v := undef) (by (simp only [List.getElem?_toArray, List.getElem?_cons_succ, List.getElem?_cons_zero]; rfl)) (by kernel_rfl) (by kernel_rfl) (by kernel_rfl) (by intro _ _ _ h; exact h) (Or.inr ⟨by rfl, rfl⟩) (by assumption) ?_
          simp only [Act.put, List.setIfInBounds_toArray, List.set_cons_zero, List.set_cons_succ]
          refine wpAnyH_take (i := 11) (v := undef) (by (simp only [List.getElem?_toArray, List.getElem?_cons_succ, List.getElem?_cons_zero]; rfl)) (by kernel_rfl) (by kernel_rfl) (by kernel_rfl) (by intro _ _ _ h; exact h) (Or.inr ⟨by rfl, rfl⟩) (by assumption) ?_
          simp only [Act.put, List.setIfInBounds_toArray, List.set_cons_zero, List.set_cons_succ]
          refine wpAnyH_take (i := 12) (v := undef) (by (simp only [List.getElem?_toArray, List.getElem?_cons_succ, List.getElem?_cons_zero]; rfl)) (by kernel_rfl) (by kernel_rfl) (by kernel_rfl) (by intro _ _ _ h; exact h) (Or.inr ⟨by rfl, rfl⟩) (by assumption) ?_
          simp only [Act.put, List.setIfInBounds_toArray, List.set_cons_zero, List.set_cons_succ]
          refine wpAnyH_take (i := 13) (v := undef) (by (simp only [List.getElem?_toArray, List.getElem?_cons_succ, List.getElem?_cons_zero]; rfl)) (by kernel_rfl) (by kernel_rfl) (by kernel_rfl) (by intro _ _ _ h; exact h) (Or.inr ⟨by rfl, rfl⟩) (by assumption) ?_
          simp only [Act.put, List.setIfInBounds_toArray, List.set_cons_zero, List.set_cons_succ]
          refine wpAnyH_take (i := 14) (v := undef) (by (simp only [List.getElem?_toArray, List.getElem?_cons_succ, List.getElem?_cons_zero]; rfl)) (by kernel_rfl) (by kernel_rfl) (by kernel_rfl) (by intro _ _ _ h; exact h) (Or.inr ⟨by rfl, rfl⟩) (by assumption) ?_
          simp only [Act.put, List.setIfInBounds_toArray, List.set_cons_zero, List.set_cons_succ]
          refine wpAnyH_take (i := 15) (v := undef) (by (simp only [List.getElem?_toArray, List.getElem?_cons_succ, List.getElem?_cons_zero]; rfl)) (by kernel_rfl) (by kernel_rfl) (by kernel_rfl) (by intro _ _ _ h; exact h) (Or.inr ⟨by rfl, rfl⟩) (by assumption) ?_
          simp only [Act.put, List.setIfInBounds_toArray, List.set_cons_zero, List.set_cons_succ]
          refine wpAnyH_take (i := 16) (v := undef) (by (simp only [List.getElem?_toArray, List.getElem?_cons_succ, List.getElem?_cons_zero]; rfl)) (by kernel_rfl) (by kernel_rfl) (by kernel_rfl) (by intro _ _ _ h; exact h) (Or.inr ⟨by rfl, rfl⟩) (by assumption) ?_
          simp only [Act.put, List.setIfInBounds_toArray, List.set_cons_zero, List.set_cons_succ]
          refine wpAnyH_take (i := 17) (v := undef) (by (simp only [List.getElem?_toArray, List.getElem?_cons_succ, List.getElem?_cons_zero]; rfl)) (by kernel_rfl) (by kernel_rfl) (by kernel_rfl) (by intro _ _ _ h; exact h) (Or.inr ⟨by rfl, rfl⟩) (by assumption) ?_
          simp only [Act.put, List.setIfInBounds_toArray, List.set_cons_zero, List.set_cons_succ]
          refine wpAnyH_take (i := 18) (v := undef) (by (simp only [List.getElem?_toArray, List.getElem?_cons_succ, List.getElem?_cons_zero]; rfl)) (by kernel_rfl) (by kernel_rfl) (by kernel_rfl) (by intro _ _ _ h; exact h) (Or.inr ⟨by rfl, rfl⟩) (by assumption) ?_
          simp only [Act.put, List.setIfInBounds_toArray, List.set_cons_zero, List.set_cons_succ]
          refine wpAnyH_take (i := 19) (v := undef) (by (simp only [List.getElem?_toArray, List.getElem?_cons_succ, List.getElem?_cons_zero]; rfl)) (by kernel_rfl) (by kernel_rfl) (by kernel_rfl) (by intro _ _ _ h; exact h) (Or.inr ⟨by rfl, rfl⟩) (by assumption) ?_
          simp only [Act.put, List.setIfInBounds_toArray, List.set_cons_zero, List.set_cons_succ]
          refine wpAnyH_take (i := 20) (v := undef) (by (simp only [List.getElem?_toArray, List.getElem?_cons_succ, List.getElem?_cons_zero]; rfl)) (by kernel_rfl) (by kernel_rfl) (by kernel_rfl) (by intro _ _ _ h; exact h) (Or.inr ⟨by rfl, rfl⟩) (by assumption) ?_
          simp only [Act.put, List.setIfInBounds_toArray, List.set_cons_zero, List.set_cons_succ]
          refine wpAnyH_take (i := 21) (v := undef) (by (simp only [List.getElem?_toArray, List.getElem?_cons_succ, List.getElem?_cons_zero]; rfl)) (by kernel_rfl) (by kernel_rfl) (by kernel_rfl) (by intro _ _ _ h; exact h) (Or.inr ⟨by rfl, rfl⟩) (by assumption) ?_
          simp only [Act.put, List.setIfInBounds_toArray, List.set_cons_zero, List.set_cons_succ]
          refine wpAnyH_take (i := 22) (v := ?_) (by (simp only [List.getElem?_toArray, List.getElem?_cons_succ, List.getElem?_cons_zero]; rfl)) (by kernel_rfl) (by kernel_rfl) (by kernel_rfl) (by intro _ _ _ h; exact h) (Or.inl ⟨by rfl, ?_⟩) (by assumption) ?_
          rotate_left
          · (intro w hSw; (try dsimp only at hSw); go_simp; try (with_reducible rfl))
          simp only [Act.put, List.setIfInBounds_toArray, List.set_cons_zero, List.set_cons_succ]
          refine wpAnyH_done (by kernel_rfl) ?_ _
          go_wp2
          refine bodyPost_ret (refparse_results _ _ w.heap.size _ _ _ _ _ rfl rfl (row_set4 _ _ _ _ HZ5.out)) rfl ?_
          exact .inr ⟨i + 1, HF.out, by omega, by first | rfl | (push_cast; rfl), below_set4 HBX5.out _ _ _ _⟩
        by_cases hn4 : 4096 ≤ st.pins.length
        · have h4b : decide ((4096 : Int) ≤ (st.pins.length : Int)) = true := decide_eq_true (by omega)
          have HF := Lib.hid (show parseL s.data.toList = .inl (i + 1) by rw [← HG1.out]; exact go_bad HH0.out (by rw [HST.out, if_neg (fun h => by have := h.1.2; omega)]))
          have HZ5 := Lib.hid (show LZ w4.drew w.heap.size from HZ4.out)
          have HBX5 := Lib.hid HBX4.out.drew
          go_upto_region 25 with fail
          refine wp_region_held_drew (S := (fun w' => Below w4.heap.size w4 w')) (by kernel_rfl) (by (try dsimp only); (first | with_reducible exact hba.drew | with_reducible assumption)) (fun hHeld => ?_)
          refine wpAnyH_take (i := 0) (v := ?_) (by (simp only [List.getElem?_toArray, List.getElem?_cons_succ, List.getElem?_cons_zero]; rfl)) (by kernel_rfl) (by kernel_rfl) (by kernel_rfl) (by intro _ _ _ h; exact h) (Or.inl ⟨by rfl, ?_⟩) (by assumption) ?_
          rotate_left
          · (intro w hSw; (try dsimp only at hSw); go_simp; try (with_reducible rfl))
          simp only [Act.put, List.setIfInBounds_toArray, List.set_cons_zero, List.set_cons_succ]
          refine wpAnyH_take (i := 1) (v := ?_) (by (simp only [List.getElem?_toArray, List.getElem?_cons_succ, List.getElem?_cons_zero]; rfl)) (by kernel_rfl) (by kernel_rfl) (by kernel_rfl) (by intro _ _ _ h; exact h) (Or.inl ⟨by rfl, ?_⟩) (by assumption) ?_
          rotate_left
          · (intro w hSw; (try dsimp only at hSw); go_simp; try (with_reducible rfl))
          simp only [Act.put, List.setIfInBounds_toArray, List.set_cons_zero, List.set_cons_succ]
          refine wpAnyH_take (i := 2) (v := ?_) (by (simp only [List.getElem?_toArray, List.getElem?_cons_succ, List.getElem?_cons_zero]; rfl)) (by kernel_rfl) (by kernel_rfl) (by kernel_rfl) (by intro _ _ _ h; exact h) (Or.inl ⟨by rfl, ?_⟩) (by assumption) ?_
          rotate_left
          · (intro w hSw; (try dsimp only at hSw); go_simp; try (with_reducible rfl))
          simp only [Act.put, List.setIfInBounds_toArray, List.set_cons_zero, List.set_cons_succ]
          refine wpAnyH_take (i := 3) (v := ?_) (by (simp only [List.getElem?_toArray, List.getElem?_cons_succ, List.getElem?_cons_zero]; rfl)) (by kernel_rfl) (by kernel_rfl) (by kernel_rfl) (by intro _ _ _ h; exact h) (Or.inl ⟨by rfl, ?_⟩) (by assumption) ?_
          rotate_left
          · (intro w hSw; (try dsimp only at hSw); go_simp; try (with_reducible rfl))
          simp only [Act.put, List.setIfInBounds_toArray, List.set_cons_zero, List.set_cons_succ]
          refine wpAnyH_take (i := 4) (v := ?_) (by (simp only [List.getElem?_toArray, List.getElem?_cons_succ, List.getElem?_cons_zero]; rfl)) (by kernel_rfl) (by kernel_rfl) (by kernel_rfl) (by intro _ _ _ h; exact h) (Or.inl ⟨by rfl, ?_⟩) (by assumption) ?_
          rotate_left
          · (intro w hSw; (try dsimp only at hSw); go_simp; try (with_reducible rfl))
          simp only [Act.put, List.setIfInBounds_toArray, List.set_cons_zero, List.set_cons_succ]
          refine wpAnyH_take (i := 5) (v := ?_) (by (simp only [List.getElem?_toArray, List.getElem?_cons_succ, List.getElem?_cons_zero]; rfl)) (by kernel_rfl) (by kernel_rfl) (by kernel_rfl) (by intro _ _ _ h; exact h) (Or.inl ⟨by rfl, ?_⟩) (by assumption) ?_
          rotate_left
          · (intro w hSw; (try dsimp only at hSw); go_simp; try (with_reducible rfl))
          simp only [Act.put, List.setIfInBounds_toArray, List.set_cons_zero, List.set_cons_succ]
          refine wpAnyH_take (i := 6) (v := ?_) (by (simp only [List.getElem?_toArray, List.getElem?_cons_succ, List.getElem?_cons_zero]; rfl)) (by kernel_rfl) (by kernel_rfl) (by kernel_rfl) (by intro _ _ _ h; exact h) (Or.inl ⟨by rfl, ?_⟩) (by assumption) ?_
          rotate_left
          · (intro w hSw; (try dsimp only at hSw); go_simp; try (with_reducible rfl))
          simp only [Act.put, List.setIfInBounds_toArray, List.set_cons_zero, List.set_cons_succ]
          refine wpAnyH_take (i := 7) (v := undef) (by (simp only [List.getElem?_toArray, List.getElem?_cons_succ, List.getElem?_cons_zero]; rfl)) (by kernel_rfl) (by kernel_rfl) (by kernel_rfl) (by intro _ _ _ h; exact h) (Or.inr ⟨by rfl, rfl⟩) (by assumption) ?_
          simp only [Act.put, List.setIfInBounds_toArray, List.set_cons_zero, List.set_cons_succ]
          refine wpAnyH_take (i := 8) (v := undef) (by (simp only [List.getElem?_toArray, List.getElem?_cons_succ, List.getElem?_cons_zero]; rfl)) (by kernel_rfl) (by kernel_rfl) (by kernel_rfl) (by intro _ _ _ h; exact h) (Or.inr ⟨by rfl, rfl⟩) (by assumption) ?_
          simp only [Act.put, List.setIfInBounds_toArray, List.set_cons_zero, List.set_cons_succ]
          refine wpAnyH_take (i := 9) (v := undef) (by (simp only [List.getElem?_toArray, List.getElem?_cons_succ, List.getElem?_cons_zero]; rfl)) (by kernel_rfl) (by kernel_rfl) (by kernel_rfl) (by intro _ _ _ h; exact h) (Or.inr ⟨by rfl, rfl⟩) (by assumption) ?_
          simp only [Act.put, List.setIfInBounds_toArray, List.set_cons_zero, List.set_cons_succ]
          refine wpAnyH_take (i := 10) (v := undef) (by (simp only [List.getElem?_toArray, List.getElem?_cons_succ, List.getElem?_cons_zero]; rfl)) (by kernel_rfl) (by kernel_rfl) (by kernel_rfl) (by intro _ _ _ h; exact h) (Or.inr ⟨by rfl, rfl⟩) (by assumption) ?_
          simp only [Act.put, List.setIfInBounds_toArray, List.set_cons_zero, List.set_cons_succ]
          refine wpAnyH_take (i := 11) (v := undef) (by (simp only [List.getElem?_toArray, List.getElem?_cons_succ, List.getElem?_cons_zero]; rfl)) (by kernel_rfl) (by kernel_rfl) (by kernel_rfl) (by intro _ _ _ h; exact h) (Or.inr ⟨by rfl, rfl⟩) (by assumption) ?_
          simp only [Act.put, List.setIfInBounds_toArray, List.set_cons_zero, List.set_cons_succ]
          refine wpAnyH_take (i := 12) (v := undef) (by (simp only [List.getElem?_toArray, List.getElem?_cons_succ, List.getElem?_cons_zero]; rfl)) (by kernel_rfl) (by kernel_rfl) (by kernel_rfl) (by intro _ _ _ h; exact h) (Or.inr ⟨by rfl, rfl⟩) (by assumption) ?_
          simp only [Act.put, List.setIfInBounds_toArray, List.set_cons_zero, List.set_cons_succ]
          refine wpAnyH_take (i := 13) (v := undef) (by (simp only [List.getElem?_toArray, List.getElem?_cons_succ, List.getElem?_cons_zero]; rfl)) (by kernel_rfl) (by kernel_rfl) (by kernel_rfl) (by intro _ _ _ h; exact h) (Or.inr ⟨by rfl, rfl⟩) (by assumption) ?_
          simp only [Act.put, List.setIfInBounds_toArray, List.set_cons_zero, List.set_cons_succ]
          refine wpAnyH_take (i := 14) (v := undef) (by (simp only [List.getElem?_toArray, List.getElem?_cons_succ, List.getElem?_cons_zero]; rfl)) (by kernel_rfl) (by kernel_rfl) (by kernel_rfl) (by intro _ _ _ h; exact h) (Or.inr ⟨by rfl, rfl⟩) (by assumption) ?_
          simp only [Act.put, List.setIfInBounds_toArray, List.set_cons_zero, List.set_cons_succ]
          refine wpAnyH_take (i := 15) (v := undef) (by (simp only [List.getElem?_toArray, List.getElem?_cons_succ, List.getElem?_cons_zero]; rfl)) (by kernel_rfl) (by kernel_rfl) (by kernel_rfl) (by intro _ _ _ h; exact h) (Or.inr ⟨by rfl, rfl⟩) (by assumption) ?_
          simp only [Act.put, List.setIfInBounds_toArray, List.set_cons_zero, List.set_cons_succ]
          refine wpAnyH_take (i := 16) (v := undef) (by (simp only [List.getElem?_toArray, List.getElem?_cons_succ, List.getElem?_cons_zero]; rfl)) (by kernel_rfl) (by kernel_rfl) (by kernel_rfl) (by intro _ _ _ h; exact h) (Or.inr ⟨by rfl, rfl⟩) (by assumption) ?_
          simp only [Act.put, List.setIfInBounds_toArray, List.set_cons_zero, List.set_cons_succ]
          refine wpAnyH_take (i := 17) (v := undef) (by (simp only [List.getElem?_toArray, List.getElem?_cons_succ, List.getElem?_cons_zero]; rfl)) (by kernel_rfl) (by kernel_rfl) (by kernel_rfl) (by intro _ _ _ h; exact h) (Or.inr ⟨by rfl, rfl⟩) (by assumption) ?_
          simp only [Act.put, List.setIfInBounds_toArray, List.set_cons_zero, List.set_cons_succ]
          refine wpAnyH_take (i := 18) (v := undef) (by (simp only [List.getElem?_toArray, List.getElem?_cons_succ, List.getElem?_cons_zero]; rfl)) (by kernel_rfl) (by kernel_rfl) (by kernel_rfl) (by intro _ _ _ h; exact h) (Or.inr ⟨by rfl, rfl⟩) (by assumption) ?_
          simp only [Act.put, List.setIfInBounds_toArray, List.set_cons_zero, List.set_cons_succ]
          refine wpAnyH_take (i := 19) (v := undef) (by (simp only [List.getElem?_toArray, List.getElem?_cons_succ, List.getElem?_cons_zero]; rfl)) (by kernel_rfl) (by kernel_rfl) (by kernel_rfl) (by intro _ _ _ h; exact h) (Or.inr ⟨by rfl, rfl⟩) (by assumption) ?_
          simp only [Act.put, List.setIfInBounds_toArray, List.set_cons_zero, List.set_cons_succ]
          refine wpAnyH_take (i := 20) (v := undef) (by (simp only [List.getElem?_toArray, List.getElem?_cons_succ, List.getElem?_cons_zero]; rfl)) (by kernel_rfl) (by kernel_rfl) (by kernel_rfl) (by intro _ _ _ h; exact h) (Or.inr ⟨by rfl, rfl⟩) (by assumption) ?_
          simp only [Act.put, List.setIfInBounds_toArray, List.set_cons_zero, List.set_cons_succ]
          refine wpAnyH_take (i := 21) (v := undef) (by (simp only [List.getElem?_toArray, List.getElem?_cons_succ, List.getElem?_cons_zero]; rfl)) (by kernel_rfl) (by kernel_rfl) (by kernel_rfl) (by intro _ _ _ h; exact h) (Or.inr ⟨by rfl, rfl⟩) (by assumption) ?_
          simp only [Act.put, List.setIfInBounds_toArray, List.set_cons_zero, List.set_cons_succ]
          refine wpAnyH_take (i := 22) (v := ?_) (by (simp only [List.getElem?_toArray, List.getElem?_cons_succ, List.getElem?_cons_zero]; rfl)) (by kernel_rfl) (by kernel_rfl) (by kernel_rfl) (by intro _ _ _ h; exact h) (Or.inl ⟨by rfl, ?_⟩) (by assumption) ?_
          rotate_left
          · (intro w hSw; (try dsimp only at hSw); go_simp; try (with_reducible rfl))
          simp only [Act.put, List.setIfInBounds_toArray, List.set_cons_zero, List.set_cons_succ]
          refine wpAnyH_done (by kernel_rfl) ?_ _
          go_wp2
          refine bodyPost_ret (refparse_results _ _ w.heap.size _ _ _ _ _ rfl rfl (row_set4 _ _ _ _ HZ5.out)) rfl ?_
          exact .inr ⟨i + 1, HF.out, by omega, by first | rfl | (push_cast; rfl), below_set4 HBX5.out _ _ _ _⟩
        have h4b : decide ((4096 : Int) ≤ (st.pins.length : Int)) = false := decide_eq_false (by omega)
        by_cases hn0 : st.pins.length = 0
        · have hgb : decide ((0 : Int) < (st.pins.length : Int)) = false := decide_eq_false (by omega)
          have HTK := Lib.hid (show takeM (i + 1) t st = some ⟨st.rg, st.ra, st.rv, st.pins ++ [p], st.ended⟩ by rw [HST.out, if_pos ⟨⟨rfl, by omega⟩, by unfold prevR; rw [decide_eq_true hn0]; rfl⟩])
          have HLK5 := Lib.hid (show LK w4.drew wL.heap.size st _ from HLK4.out)
          have HZ5 := Lib.hid (show LZ w4.drew w.heap.size from HZ4.out)
          have HBW5 := Lib.hid HBW4.out.drew
          have hgb2 : decide (0 < st.pins.length) = false := decide_eq_false (by omega)
          clear hn0
          go_upto_region 25 with fail
          refine wp_region_held_drew (S := (fun w' => Below w4.heap.size w4 w')) (by kernel_rfl) (by (try dsimp only); (first | with_reducible exact hba.drew | with_reducible assumption)) (fun hHeld => ?_)
          refine wpAnyH_take (i := 0) (v := ?_) (by (simp only [List.getElem?_toArray, List.getElem?_cons_succ, List.getElem?_cons_zero]; rfl)) (by kernel_rfl) (by kernel_rfl) (by kernel_rfl) (by intro _ _ _ h; exact h) (Or.inl ⟨by rfl, ?_⟩) (by assumption) ?_
          rotate_left
          · (intro w hSw; (try dsimp only at hSw); go_simp; try (with_reducible rfl))
          simp only [Act.put, List.setIfInBounds_toArray, List.set_cons_zero, List.set_cons_succ]
          refine wpAnyH_take (i := 1) (v := ?_) (by (simp only [List.getElem?_toArray, List.getElem?_cons_succ, List.getElem?_cons_zero]; rfl)) (by kernel_rfl) (by kernel_rfl) (by kernel_rfl) (by intro _ _ _ h; exact h) (Or.inl ⟨by rfl, ?_⟩) (by assumption) ?_
          rotate_left
          · (intro w hSw; (try dsimp only at hSw); go_simp; try (with_reducible rfl))
          simp only [Act.put, List.setIfInBounds_toArray, List.set_cons_zero, List.set_cons_succ]
          refine wpAnyH_take (i := 2) (v := ?_) (by (simp only [List.getElem?_toArray, List.getElem?_cons_succ, List.getElem?_cons_zero]; rfl)) (by kernel_rfl) (by kernel_rfl) (by kernel_rfl) (by intro _ _ _ h; exact h) (Or.inl ⟨by rfl, ?_⟩) (by assumption) ?_
          rotate_left
          · (intro w hSw; (try dsimp only at hSw); go_simp; try (with_reducible rfl))
          simp only [Act.put, List.setIfInBounds_toArray, List.set_cons_zero, List.set_cons_succ]
          refine wpAnyH_take (i := 3) (v := ?_) (by (simp only [List.getElem?_toArray, List.getElem?_cons_succ, List.getElem?_cons_zero]; rfl)) (by kernel_rfl) (by kernel_rfl) (by kernel_rfl) (by intro _ _ _ h; exact h) (Or.inl ⟨by rfl, ?_⟩) (by assumption) ?_
          rotate_left
          · (intro w hSw; (try dsimp only at hSw); go_simp; try (with_reducible rfl))
          simp only [Act.put, List.setIfInBounds_toArray, List.set_cons_zero, List.set_cons_succ]
          refine wpAnyH_take (i := 4) (v := ?_) (by (simp only [List.getElem?_toArray, List.getElem?_cons_succ, List.getElem?_cons_zero]; rfl)) (by kernel_rfl) (by kernel_rfl) (by kernel_rfl) (by intro _ _ _ h; exact h) (Or.inl ⟨by rfl, ?_⟩) (by assumption) ?_
          rotate_left
          · (intro w hSw; (try dsimp only at hSw); go_simp; try (with_reducible rfl))
          simp only [Act.put, List.setIfInBounds_toArray, List.set_cons_zero, List.set_cons_succ]
          refine wpAnyH_take (i := 5) (v := ?_) (by (simp only [List.getElem?_toArray, List.getElem?_cons_succ, List.getElem?_cons_zero]; rfl)) (by kernel_rfl) (by kernel_rfl) (by kernel_rfl) (by intro _ _ _ h; exact h) (Or.inl ⟨by rfl, ?_⟩) (by assumption) ?_
          rotate_left
          · (intro w hSw; (try dsimp only at hSw); go_simp; try (with_reducible rfl))
          simp only [Act.put, List.setIfInBounds_toArray, List.set_cons_zero, List.set_cons_succ]
          refine wpAnyH_take (i := 6) (v := ?_) (by (simp only [List.getElem?_toArray, List.getElem?_cons_succ, List.getElem?_cons_zero]; rfl)) (by kernel_rfl) (by kernel_rfl) (by kernel_rfl) (by intro _ _ _ h; exact h) (Or.inl ⟨by rfl, ?_⟩) (by assumption) ?_
          rotate_left
          · (intro w hSw; (try dsimp only at hSw); go_simp; try (with_reducible rfl))
          simp only [Act.put, List.setIfInBounds_toArray, List.set_cons_zero, List.set_cons_succ]
          refine wpAnyH_take (i := 7) (v := ?_) (by (simp only [List.getElem?_toArray, List.getElem?_cons_succ, List.getElem?_cons_zero]; rfl)) (by kernel_rfl) (by kernel_rfl) (by kernel_rfl) (by intro _ _ _ h; exact h) (Or.inl ⟨by rfl, ?_⟩) (by assumption) ?_
          rotate_left
          · (intro w hSw; (try dsimp only at hSw); go_simp; try (with_reducible rfl))
          simp only [Act.put, List.setIfInBounds_toArray, List.set_cons_zero, List.set_cons_succ]
          refine wpAnyH_take (i := 8) (v := ?_) (by (simp only [List.getElem?_toArray, List.getElem?_cons_succ, List.getElem?_cons_zero]; rfl)) (by kernel_rfl) (by kernel_rfl) (by kernel_rfl) (by intro _ _ _ h; exact h) (Or.inl ⟨by rfl, ?_⟩) (by assumption) ?_
          rotate_left
          · (intro w hSw; (try dsimp only at hSw); go_simp; try (with_reducible rfl))
          simp only [Act.put, List.setIfInBounds_toArray, List.set_cons_zero, List.set_cons_succ]
          refine wpAnyH_take (i := 9) (v := ?_) (by (simp only [List.getElem?_toArray, List.getElem?_cons_succ, List.getElem?_cons_zero]; rfl)) (by kernel_rfl) (by kernel_rfl) (by kernel_rfl) (by intro _ _ _ h; exact h) (Or.inl ⟨by rfl, ?_⟩) (by assumption) ?_
          rotate_left
          · (intro w hSw; (try dsimp only at hSw); go_simp; try (with_reducible rfl))
          simp only [Act.put, List.setIfInBounds_toArray, List.set_cons_zero, List.set_cons_succ]
          refine wpAnyH_take (i := 10) (v := undef) (by (simp only [List.getElem?_toArray, List.getElem?_cons_succ, List.getElem?_cons_zero]; rfl)) (by kernel_rfl) (by kernel_rfl) (by kernel_rfl) (by intro _ _ _ h; exact h) (Or.inr ⟨by rfl, rfl⟩) (by assumption) ?_
          simp only [Act.put, List.setIfInBounds_toArray, List.set_cons_zero, List.set_cons_succ]
          refine wpAnyH_take (i := 11) (v := undef) (by (simp only [List.getElem?_toArray, List.getElem?_cons_succ, List.getElem?_cons_zero]; rfl)) (by kernel_rfl) (by kernel_rfl) (by kernel_rfl) (by intro _ _ _ h; exact h) (Or.inr ⟨by rfl, rfl⟩) (by assumption) ?_
          simp only [Act.put, List.setIfInBounds_toArray, List.set_cons_zero, List.set_cons_succ]
          refine wpAnyH_take (i := 12) (v := undef) (by (simp only [List.getElem?_toArray, List.getElem?_cons_succ, List.getElem?_cons_zero]; rfl)) (by kernel_rfl) (by kernel_rfl) (by kernel_rfl) (by intro _ _ _ h; exact h) (Or.inr ⟨by rfl, rfl⟩) (by assumption) ?_
          simp only [Act.put, List.setIfInBounds_toArray, List.set_cons_zero, List.set_cons_succ]
          refine wpAnyH_take (i := 13) (v := undef) (by (simp only [List.getElem?_toArray, List.getElem?_cons_succ, List.getElem?_cons_zero]; rfl)) (by kernel_rfl) (by kernel_rfl) (by kernel_rfl) (by intro _ _ _ h; exact h) (Or.inr ⟨by rfl, rfl⟩) (by assumption) ?_
          simp only [Act.put, List.setIfInBounds_toArray, List.set_cons_zero, List.set_cons_succ]
          refine wpAnyH_take (i := 14) (v := undef) (by (simp only [List.getElem?_toArray, List.getElem?_cons_succ, List.getElem?_cons_zero]; rfl)) (by kernel_rfl) (by kernel_rfl) (by kernel_rfl) (by intro _ _ _ h; exact h) (Or.inr ⟨by rfl, rfl⟩) (by assumption) ?_
          simp only [Act.put, List.setIfInBounds_toArray, List.set_cons_zero, List.set_cons_succ]
          refine wpAnyH_take (i := 15) (v := undef) (by (simp only [List.getElem?_toArray, List.getElem?_cons_succ, List.getElem?_cons_zero]; rfl)) (by kernel_rfl) (by kernel_rfl) (by kernel_rfl) (by intro _ _ _ h; exact h) (Or.inr ⟨by rfl, rfl⟩) (by assumption) ?_
          simp only [Act.put, List.setIfInBounds_toArray, List.set_cons_zero, List.set_cons_succ]
          refine wpAnyH_take (i := 16) (v := undef) (by (simp only [List.getElem?_toArray, List.getElem?_cons_succ, List.getElem?_cons_zero]; rfl)) (by kernel_rfl) (by kernel_rfl) (by kernel_rfl) (by intro _ _ _ h; exact h) (Or.inr ⟨by rfl, rfl⟩) (by assumption) ?_
          simp only [Act.put, List.setIfInBounds_toArray, List.set_cons_zero, List.set_cons_succ]
          refine wpAnyH_take (i := 17) (v := undef) (by (simp only [List.getElem?_toArray, List.getElem?_cons_succ, List.getElem?_cons_zero]; rfl)) (by kernel_rfl) (by kernel_rfl) (by kernel_rfl) (by intro _ _ _ h; exact h) (Or.inr ⟨by rfl, rfl⟩) (by assumption) ?_
          simp only [Act.put, List.setIfInBounds_toArray, List.set_cons_zero, List.set_cons_succ]
          refine wpAnyH_take (i := 18) (v := undef) (by (simp only [List.getElem?_toArray, List.getElem?_cons_succ, List.getElem?_cons_zero]; rfl)) (by kernel_rfl) (by kernel_rfl) (by kernel_rfl) (by intro _ _ _ h; exact h) (Or.inr ⟨by rfl, rfl⟩) (by assumption) ?_
          simp only [Act.put, List.setIfInBounds_toArray, List.set_cons_zero, List.set_cons_succ]
          refine wpAnyH_take (i := 19) (v := undef) (by (simp only [List.getElem?_toArray, List.getElem?_cons_succ, List.getElem?_cons_zero]; rfl)) (by kernel_rfl) (by kernel_rfl) (by kernel_rfl) (by intro _ _ _ h; exact h) (Or.inr ⟨by rfl, rfl⟩) (by assumption) ?_
          simp only [Act.put, List.setIfInBounds_toArray, List.set_cons_zero, List.set_cons_succ]
          refine wpAnyH_take (i := 20) (v := undef) (by (simp only [List.getElem?_toArray, List.getElem?_cons_succ, List.getElem?_cons_zero]; rfl)) (by kernel_rfl) (by kernel_rfl) (by kernel_rfl) (by intro _ _ _ h; exact h) (Or.inr ⟨by rfl, rfl⟩) (by assumption) ?_
          simp only [Act.put, List.setIfInBounds_toArray, List.set_cons_zero, List.set_cons_succ]
          refine wpAnyH_take (i := 21) (v := ?_) (by (simp only [List.getElem?_toArray, List.getElem?_cons_succ, List.getElem?_cons_zero]; rfl)) (by kernel_rfl) (by kernel_rfl) (by kernel_rfl) (by intro _ _ _ h; exact h) (Or.inl ⟨by rfl, ?_⟩) (by assumption) ?_
          rotate_left
          · (intro w hSw; (try dsimp only at hSw); go_simp; try (with_reducible rfl))
          simp only [Act.put, List.setIfInBounds_toArray, List.set_cons_zero, List.set_cons_succ]
          refine wpAnyH_take (i := 22) (v := ?_) (by (simp only [List.getElem?_toArray, List.getElem?_cons_succ, List.getElem?_cons_zero]; rfl)) (by kernel_rfl) (by kernel_rfl) (by kernel_rfl) (by intro _ _ _ h; exact h) (Or.inl ⟨by rfl, ?_⟩) (by assumption) ?_
          rotate_left
          · (intro w hSw; (try dsimp only at hSw); go_simp; try (with_reducible rfl))
          simp only [Act.put, List.setIfInBounds_toArray, List.set_cons_zero, List.set_cons_succ]
          refine wpAnyH_done (by kernel_rfl) ?_ _
          go_upto_region 27 with fail
          have HF := Lib.hid (show goM (i + 1 + 1) (L.drop (i + 1)) ⟨st.rg, st.ra, st.rv, st.pins ++ [p], st.ended⟩ = parseL s.data.toList by rw [← HG1.out]; exact (go_on HH0.out HTK.out).symm)
          have HOK6 := Lib.hid (take_okS (by omega) HTK.out HOK.out)
          have HPP5 := Lib.hid (show PinIn w4.drew P p from HPP.out)
          clear f0 f1 f2 f3 r0 r1 r2 r3 g0 g1 g2 g3 o0 o1 o2 o3 q0 q1 q2 q3 q4 q5
          generalize w4.drew = w5 at HLK5 HZ5 HBW5 HPP5 ⊢
          have g3 := HLK5.out.frozen 3
          obtain ⟨o0, o1, o2, o3⟩ := HLK5.out.cells
          obtain ⟨q0, q1, q2, q3, q4, q5⟩ := HPP5.out
          go_wp2_with (at_builtin
                       refine app6p p rfl _ _ 24 42 rfl _ 88 (wL.heap.size + 1) st.pins.length Tryd.underlying24 pn_info rfl (.slice pa st.pins.length pc) _ rfl HLK5.out.2 rfl (by omega) (by omega) HLK5.out.lt ?_)
          intro v6 w6 ho hg hne
          obtain ⟨gb, gc, rfl, _, _⟩ := ho.form (by omega)
          have hx6 : w6.heap[wL.heap.size]? = _ := (hg.block wL.heap.size HLK5.out.lt (fun e => by have := (HLK5.out.2.lt wL.heap.size e.symm).1; omega)).trans HLK5.out.1
          have hz6 : LZ w6 w.heap.size := (hg.block w.heap.size (by have := HLK5.out.lt; omega) (fun e => by have := (HLK5.out.2.lt w.heap.size e.symm).1; omega)).trans HZ5.out
          have HLK6 := Lib.hid (HLK5.out.push (p := p) ho hg)
          have HZ6 := Lib.hid (hz6.set hWL 3 (.slice (some ⟨gb, 0, none⟩) (st.pins.length + 1) gc))
          have HBW6 := Lib.hid (show Below wL.heap.size wL (w6.setCell ⟨wL.heap.size, 3, none⟩ (.slice (some ⟨gb, 0, none⟩) (st.pins.length + 1) gc)) from (HBW5.out.trans (HLK5.out.grown hg)).setCell (Nat.le_refl _) _)
          have e3 : w6.frozen? ⟨wL.heap.size, 3, none⟩ = false := frozen_of_row w6 _ 3 _ _ hx6
          have x3 : w6.cell? ⟨wL.heap.size, 3, none⟩ = some (.slice pa st.pins.length pc) := by rw [cell_of_row w6 _ 3 _ _ (0, 0) hx6]; rfl
          clear g3 o0 o1 o2 o3 q0 q1 q2 q3 q4 q5 hx6 hz6 ho hg hne
          go_wp2_with fail
          clear e3 x3
          go_roundw
          case rel => exact ⟨i + 1, ⟨st.rg, st.ra, st.rv, st.pins ++ [p], st.ended⟩, _, by go_num, by omega, HF.out, HEN.out, HOK6.out, HLK6.out, HZ6.out, HBW6.out⟩
          case measure => simp [intOf]; omega
        have hgb : decide ((0 : Int) < (st.pins.length : Int)) = true := decide_eq_true (by omega)
        have hgb2 : decide (0 < st.pins.length) = true := decide_eq_true (by omega)
        obtain ⟨j, hj⟩ : ∃ j, st.pins.length = j + 1 := ⟨st.pins.length - 1, by omega⟩
        obtain ⟨q, hq⟩ : ∃ q, st.pins[j]? = some q := ⟨_, List.getElem?_eq_getElem (by omega)⟩
        have hpv : prevR st.pins p = decide (kcmp q.key p.key < 0) := by unfold prevR; rw [decide_eq_false hn0, hj]; simp [hq, prevB]
        have HLK5 := Lib.hid (show LK w4.drew wL.heap.size st _ from HLK4.out)
        have HZ5 := Lib.hid (show LZ w4.drew w.heap.size from HZ4.out)
        have HBW5 := Lib.hid HBW4.out.drew
        have HBX5 := Lib.hid HBX4.out.drew
        have hrd : RdN w4 (.slice pa st.pins.length pc) st.pins := RdN.of_own HLK4.out.2
        obtain ⟨bq, rfl, _, _, _, hcq⟩ := hrd.elem hq
        obtain ⟨m0, m1, m2, m3, _, _⟩ := RdN.at hcq hq (Below.refl w4.heap.size w4) (Nat.le_refl _)
        have hcp := fun w => refCompare6_any q.key p.key w
        have hrng := kcmp_ord.rng q.key p.key
        rw [hpv] at HST
        generalize kcmp q.key p.key = kn at hcp hrng HST
        have HRNG := Lib.hid hrng
        unfold K4.val keyV Pn.key at hcp
        have HCP := Lib.hid hcp
        have hjI : (j : Int) < st.pins.length := by omega
        have hI2 : IntKind.i64.wrap ((st.pins.length : Int) - 1) = (j : Int) := by rw [IntWalk.i64_in _ (by omega)]; omega
        have HN4 := Lib.hid hn4
        clear hcp hrng hpv hq hrd hcq hj hn0 hn4
        go_upto_region 25 with fail
        go_region_held3 (fun w' => w'.cell? ⟨P, 0, none⟩ = some (.string p.g) ∧ w'.cell? ⟨P, 1, none⟩ = some (.string p.a) ∧ w'.cell? ⟨P, 2, none⟩ = some (.string p.t) ∧ w'.cell? ⟨P, 3, none⟩ = some (.string p.c) ∧ w'.cell? ⟨P, 4, none⟩ = some (.string p.v) ∧ w'.cell? ⟨P, 5, none⟩ = some (.int .i64 p.sc) ∧ w'.cell? (bq.add (j * 6)) = some (.string q.g) ∧ w'.cell? ⟨(bq.add (j * 6)).block, (bq.add (j * 6)).off + 1, none⟩ = some (.string q.a) ∧ w'.cell? ⟨(bq.add (j * 6)).block, (bq.add (j * 6)).off + 2, none⟩ = some (.string q.t) ∧ w'.cell? ⟨(bq.add (j * 6)).block, (bq.add (j * 6)).off + 3, none⟩ = some (.string q.c) ∧ w'.cell? ⟨wL.heap.size, 3, none⟩ = some (.slice (some bq) st.pins.length pc) ∧ Below w4.heap.size w4 w')
          (first | with_reducible exact keep11d ⟨q0, q1, q2, q3, q4, q5, m0, m1, m2, m3, o3, hba⟩ | with_reducible exact keep11p (by assumption) (by assumption))
          (first | (go_at_call 22; (with_reducible refine (HCP.out _).mono ?_); rintro e wq ⟨rfl, hbq⟩))
        have HBQ := Lib.hid (keep11b (by assumption))
        have HLK5 := Lib.hid (HLK4.out.below HBQ.out)
        have HZ5 := Lib.hid (HZ4.out.below HBQ.out (by have := (Array.getElem?_eq_some_iff.1 HZ4.out).1; exact this))
        have HBW5 := Lib.hid (HBW4.out.trans (HBQ.out.mono HBW4.out.size))
        have HBX5 := Lib.hid (HBX4.out.trans (HBQ.out.mono HBX4.out.size))
        have HPP5 := Lib.hid (HPP.out.below HBQ.out (Nat.le_refl _))
        clear f0 f1 f2 f3 r0 r1 r2 r3 g0 g1 g2 g3 o0 o1 o2 o3 q0 q1 q2 q3 q4 q5 m0 m1 m2 m3 hba
        rcases HRNG.out with h | h | h
        · subst h
          have HTK := Lib.hid (show takeM (i + 1) t st = some ⟨st.rg, st.ra, st.rv, st.pins ++ [p], st.ended⟩ by rw [HST.out, if_pos ⟨⟨(by first | trivial | rfl), by have := HN4.out; omega⟩, (by first | trivial | decide)⟩])
          go_upto_region 27 with fail
          have HF := Lib.hid (show goM (i + 1 + 1) (L.drop (i + 1)) ⟨st.rg, st.ra, st.rv, st.pins ++ [p], st.ended⟩ = parseL s.data.toList by rw [← HG1.out]; exact (go_on HH0.out HTK.out).symm)
          have HOK6 := Lib.hid (take_okS (by omega) HTK.out HOK.out)
          have g3 := HLK5.out.frozen 3
          obtain ⟨o0, o1, o2, o3⟩ := HLK5.out.cells
          obtain ⟨q0, q1, q2, q3, q4, q5⟩ := HPP5.out
          go_wp2_with (at_builtin
                       refine app6p p rfl _ _ 24 42 rfl _ 88 (wL.heap.size + 1) st.pins.length Tryd.underlying24 pn_info rfl (.slice (some bq) st.pins.length pc) _ rfl HLK5.out.2 rfl (by omega) (by omega) HLK5.out.lt ?_)
          intro v6 w6 ho hg hne
          obtain ⟨gb, gc, rfl, _, _⟩ := ho.form (by omega)
          have hx6 : w6.heap[wL.heap.size]? = _ := (hg.block wL.heap.size HLK5.out.lt (fun e => by have := (HLK5.out.2.lt wL.heap.size e.symm).1; omega)).trans HLK5.out.1
          have hz6 : LZ w6 w.heap.size := (hg.block w.heap.size (by have := HLK5.out.lt; omega) (fun e => by have := (HLK5.out.2.lt w.heap.size e.symm).1; omega)).trans HZ5.out
          have HLK6 := Lib.hid (HLK5.out.push (p := p) ho hg)
          have HZ6 := Lib.hid (hz6.set hWL 3 (.slice (some ⟨gb, 0, none⟩) (st.pins.length + 1) gc))
          have HBW6 := Lib.hid (show Below wL.heap.size wL (w6.setCell ⟨wL.heap.size, 3, none⟩ (.slice (some ⟨gb, 0, none⟩) (st.pins.length + 1) gc)) from (HBW5.out.trans (HLK5.out.grown hg)).setCell (Nat.le_refl _) _)
          have e3 : w6.frozen? ⟨wL.heap.size, 3, none⟩ = false := frozen_of_row w6 _ 3 _ _ hx6
          have x3 : w6.cell? ⟨wL.heap.size, 3, none⟩ = some (.slice (some bq) st.pins.length pc) := by rw [cell_of_row w6 _ 3 _ _ (0, 0) hx6]; rfl
          clear g3 o0 o1 o2 o3 q0 q1 q2 q3 q4 q5 hx6 hz6 ho hg hne
          go_wp2_with fail
          clear e3 x3
          go_roundw
          case rel => exact ⟨i + 1, ⟨st.rg, st.ra, st.rv, st.pins ++ [p], st.ended⟩, _, by go_num, by omega, HF.out, HEN.out, HOK6.out, HLK6.out, HZ6.out, HBW6.out⟩
          case measure => simp [intOf]; omega
        · subst h
          have HF := Lib.hid (show parseL s.data.toList = .inl (i + 1) by rw [← HG1.out]; exact go_bad HH0.out (by rw [HST.out, if_neg (fun h => by have := h.2; simp at this)]))
          have f0 := HZ5.out.frozen 0
          have f1 := HZ5.out.frozen 1
          have f2 := HZ5.out.frozen 2
          have f3 := HZ5.out.frozen 3
          obtain ⟨r0, r1, r2, r3⟩ := HZ5.out.cells
          have g0 := HLK5.out.frozen 0
          have g1 := HLK5.out.frozen 1
          have g2 := HLK5.out.frozen 2
          have g3 := HLK5.out.frozen 3
          obtain ⟨o0, o1, o2, o3⟩ := HLK5.out.cells
          go_wp2
          refine bodyPost_ret (refparse_results _ _ w.heap.size _ _ _ _ _ rfl rfl (row_set4 _ _ _ _ HZ5.out)) rfl ?_
          exact .inr ⟨i + 1, HF.out, by omega, by first | rfl | (push_cast; rfl), below_set4 HBX5.out _ _ _ _⟩
        · subst h
          have HF := Lib.hid (show parseL s.data.toList = .inl (i + 1) by rw [← HG1.out]; exact go_bad HH0.out (by rw [HST.out, if_neg (fun h => by have := h.2; simp at this)]))
          have f0 := HZ5.out.frozen 0
          have f1 := HZ5.out.frozen 1
          have f2 := HZ5.out.frozen 2
          have f3 := HZ5.out.frozen 3
          obtain ⟨r0, r1, r2, r3⟩ := HZ5.out.cells
          have g0 := HLK5.out.frozen 0
          have g1 := HLK5.out.frozen 1
          have g2 := HLK5.out.frozen 2
          have g3 := HLK5.out.frozen 3
          obtain ⟨o0, o1, o2, o3⟩ := HLK5.out.cells
          go_wp2
          refine bodyPost_ret (refparse_results _ _ w.heap.size _ _ _ _ _ rfl rfl (row_set4 _ _ _ _ HZ5.out)) rfl ?_
          exact .inr ⟨i + 1, HF.out, by omega, by first | rfl | (push_cast; rfl), below_set4 HBX5.out _ _ _ _⟩

    · have hi' : i = L.length := by omega
      have HF := Lib.hid (show parseL s.data.toList = .inl (L.length + 1) by rw [← HGO.out, hi', List.drop_length, goM])
      have hnI : ¬ (i : Int) < L.length := by omega
      clear hbw
      go_wp2
      refine bodyPost_ret (refparse_results _ _ w.heap.size _ _ _ _ _ rfl rfl (row_set4 _ _ _ _ HZ.out)) rfl ?_
      exact .inr ⟨L.length + 1, HF.out, by omega, by push_cast; rfl, below_set4 HBX.out _ _ _ _⟩
end Go.Proofs.YtcmojpfolmcaoaaDoor
