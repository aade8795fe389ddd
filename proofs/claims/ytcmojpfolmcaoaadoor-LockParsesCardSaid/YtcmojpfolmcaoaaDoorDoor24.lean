/-
  Layer 24: what every card of this seat needs: a world that holds the listed tables, and the tables out of a row's conditions. Own work.
-/
import Derived.Test.YtcmojpfolmcaoaaDoorCards
import Derived.Test.YtcmojpfolmcaoaaDoorTie
import Derived.Test.YtcmojpfolmcaoaaDoorMem24
import Derived.Deep.DeepHandedRow
import Derived.Lib.LaidTab
import Derived.Lib.LaidU8
namespace Go.Proofs.YtcmojpfolmcaoaaDoor
set_option linter.unusedVariables false
set_option linter.unusedSimpArgs false
open Go.ChangeShapes Go.WideShapes Go.ChangeAt Go.RowKit

theorem maxLen_cell (W : World) (h : W.ShapedOpen Tryd.prog) : ∃ m, W.cell? ⟨1, 0, none⟩ = some (.int .i64 m) :=
  Go.Proofs.cell_of_shapedOpen_int (zero := #[.int .i64 0]) (t := 3) h (of_decide_eq_true (by kernel_rfl)) (by kernel_rfl) rfl (by kernel_rfl) (by kernel_rfl) Tryd.underlying3
theorem tabIs_of_reads {P : Program} {W : World} {name : String} {k : IntKind} {zs : List Int} {g : Nat} {t e : TypeId} {n : Nat}
    (hg : P.globalNamed name = some g) (hty : (P.globals[g]?).map (·.type) = some t) (ht : P.underlying t = some (.array n e)) (he : P.underlying e = some (.int k)) (hce : P.cellsOf e = 1) (hct : P.cellsOf t = n)
    (h : Lib.VarReads P W name (Lib.tabData k zs)) : Lib.TabIs P W name k zs := by
  obtain ⟨g', t', cs, fuel, p, hg', ht', hvar, hd⟩ := h
  obtain rfl := Option.some.inj (hg.symm.trans hg')
  obtain rfl := Option.some.inj (hty.symm.trans ht')
  unfold Lib.TabIs
  rw [hvar, ← Lib.cells_of_tab ht he hce hct hd]
theorem tb_of {W : World} {l : List (String × DataW Unit)} (h : W.ShapedOpen Tryd.prog) (hL : laidMet Tryd.prog l W) (hm : ("internal/strconv.uint64pow10", Rows.laid_internal_strconv_uint64pow10) ∈ l) : Tb W := by
  obtain ⟨m, hc⟩ := maxLen_cell W h
  refine ⟨⟨World.block_lt_of_cell? W _ hc, m, hc⟩, ?_⟩
  have hr := Lib.laidMet.reads hL hm
  have he : (Rows.laid_internal_strconv_uint64pow10 : DataW Unit) = Lib.tabData .u64 Lib.pow10Tab := by kernel_rfl
  rw [he] at hr
  exact tabIs_of_reads (g := 0) (t := 106) (e := 97) (n := 20) (by kernel_rfl) (by kernel_rfl) Tryd.underlying106 Tryd.underlying97 (by kernel_rfl) (by kernel_rfl) hr

def flat1 : DataW Unit → List Value
  | .lit (.int k n) => [.int k n]
  | _ => []
def flat2 : DataW Unit → List Value
  | .agg l => l.flatMap flat1
  | _ => []
def flat3 : DataW Unit → List Value
  | .agg l => l.flatMap flat2
  | _ => []
def fillWith (l : List Value) : Obj → Obj
  | .cells _ t frozen => .cells l.toArray t frozen
  | o => o
/-- a world whose tables hold what their initialisers lay -/
noncomputable def laidWorld (args : Array Value) (os : Os) : World :=
  { World.holding Tryd.prog os ⟨#[], args, []⟩ with heap := (((((World.holding Tryd.prog os ⟨#[], args, []⟩).heap.modify 0 (fillWith (flat2 Rows.laid_internal_strconv_uint64pow10))).modify 2 (fillWith (flat2 Rows.laid_math_bits_deBruijn32tab))).modify 3 (fillWith (flat2 Rows.laid_math_bits_deBruijn64tab))).modify 4 (fillWith (flat2 Rows.laid_unicode_utf8_first))).modify 5 (fillWith (flat3 Rows.laid_unicode_utf8_acceptRanges)) }
end Go.Proofs.YtcmojpfolmcaoaaDoor
