/-
  What the listed variables of the library hold when the call begins, and a world in which they do.
-/
import Derived.Test.YthmabhglmgnamaaDoorRows
import Derived.Test.YthmabhglmgnamaaDoorFmsA
import Derived.LaidLaws
import Derived.LaidHandle
import Derived.Lib.LaidTab
namespace Go.Proofs.YthmabhglmgnamaaDoor
open Go.RowKit

theorem tabT : (Tryd.prog.globalNamed "internal/strconv.uint64pow10").bind (fun g => (Tryd.prog.globals[g]?).map (·.type)) = some 112 := by kernel_rfl
theorem tabC1 : Tryd.prog.cellsOf 106 = 1 := by kernel_rfl
theorem tabC20 : Tryd.prog.cellsOf 112 = 20 := by kernel_rfl
theorem tabD : (Rows.laid_internal_strconv_uint64pow10 : DataW Unit) = Lib.tabData .u64 Lib.pow10Tab := by kernel_rfl
/-- From the row's condition to the table. -/
theorem tab_of_laid {W : World} (h : laidMetH Tryd.prog Rows.fnExactSlabTextRow.laid W) : Tab W := by
  have h' : laidMet Tryd.prog Rows.fnExactSlabTextRow.laid W := h
  obtain ⟨ps, ⟨g1, t1, cs1, f1, p1, q1, _, _, _, _, ⟨g2, t2, cs2, f2, p2, q2, _, _, _, _, ⟨g3, t3, cs3, f3, p3, q3, hg3, ht3, hv3, hd3, _, _⟩, _⟩, _⟩, _⟩ := h'
  have e : t3 = 112 := by
    have := tabT
    rw [hg3] at this
    exact Option.some.inj (ht3.symm.trans this)
  subst e
  rw [tabD] at hd3
  unfold Tab Lib.TabIs
  rw [hv3, ← Lib.cells_of_tab Tryd.underlying112 Tryd.underlying106 tabC1 tabC20 hd3]
/-- The cells of a table that is written out. -/
def cellsD : DataW Unit → Array Value
  | .agg l => (l.map (fun | .lit (.int k z) => Value.int k z | _ => undef)).toArray
  | _ => #[]
def layD (d : DataW Unit) : Obj → Obj
  | .cells _ t fz => .cells (cellsD d) t fz
  | o => o
noncomputable def laidWorld (os : Os) : World :=
  { World.holding Tryd.prog os ⟨#[], #[], []⟩ with heap := (((World.holding Tryd.prog os ⟨#[], #[], []⟩).heap.modify 2 (layD Rows.laid_internal_strconv_uint64pow10)).modify 3 (layD Rows.laid_math_bits_deBruijn32tab)).modify 4 (layD Rows.laid_math_bits_deBruijn64tab) }
set_option maxRecDepth 100000 in
theorem laidWorld_met (os : Os) (args : Array Value) : laidMetH Tryd.prog Rows.fnExactSlabTextRow.laid ((laidWorld os).forCall (fun _ _ => 0) ⟨#[], args, []⟩).memory :=
  laidMetH_of_parts (laidMet_of_run' 8 (by kernel_rfl) (by kernel_rfl)) (by kernel_rfl)
end Go.Proofs.YthmabhglmgnamaaDoor
