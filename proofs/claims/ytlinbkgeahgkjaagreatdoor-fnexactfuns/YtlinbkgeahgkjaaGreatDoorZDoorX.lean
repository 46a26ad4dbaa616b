/-
  What the listed variables of the library hold when the call begins (chapter 13's laws), and a world in which they do.
-/
import Derived.Test.YtlinbkgeahgkjaaGreatDoorRows
import Derived.LaidLaws
import Derived.LaidHandle
import Derived.Lib.LaidTab
import Derived.Lib.LaidU8
import Derived.Lib.SpaceR
import Derived.Stop.LaidErr
import Derived.Deep.DeepLaidRun
import Derived.Shelf.Vars
import Derived.Test.YtlinbkgeahgkjaaGreatDoorZEnvA
namespace Go.Proofs.YtlinbkgeahgkjaaGreatDoor
open Go.RowKit

theorem laid_plain {W : World} (h : laidMetH Tryz.prog Rows.fnExactFunsRow.laid W) : laidMet Tryz.prog Rows.fnExactFunsRow.laid W := by
  unfold laidMetH at h
  rw [show (Rows.fnExactFunsRow.laid.filter fun x => x.2.handleName?.isSome) = [] by kernel_rfl] at h
  exact h
theorem gPow : Tryz.prog.globalNamed "internal/strconv.uint64pow10" = some 5 := by kernel_rfl
theorem gPowT : (Tryz.prog.globals[5]?).map (·.type) = some 168 := by kernel_rfl
theorem gAsc : Tryz.prog.globalNamed "strings.asciiSpace" = some 1 := by kernel_rfl
theorem gAscT : (Tryz.prog.globals[1]?).map (·.type) = some 140 := by kernel_rfl
theorem gEr : Tryz.prog.globalNamed "strconv.ErrRange" = some 7 := by kernel_rfl
theorem gErT : (Tryz.prog.globals[7]?).map (·.type) = some 107 := by kernel_rfl
theorem gEs : Tryz.prog.globalNamed "strconv.ErrSyntax" = some 6 := by kernel_rfl
theorem gEsT : (Tryz.prog.globals[6]?).map (·.type) = some 107 := by kernel_rfl
theorem starE : "*" ++ "errors.errorString" = "*errors.errorString" := by decide
theorem rowE (u : TypeId) (h : Tryz.prog.typeName? 3 u = some "*errors.errorString") : u = 190 :=
  typeName_ptr_named (nm := "errors.errorString") (by rw [starE]; kernel_rfl) (by kernel_rfl) (by decide) u (by rw [starE]; exact h)
theorem dPow : (Rows.laid_internal_strconv_uint64pow10 : DataW Unit) = Lib.tabData .u64 Lib.pow10Tab := by kernel_rfl
theorem dAsc : (Rows.laid_strings_asciiSpace : DataW Unit) = Lib.tabData .u8 Lib.asciiSpaceTab := by kernel_rfl
theorem mxT : Tryz.prog.buildable 3 = true ∧ Tryz.prog.cellTypes Tryz.prog.depth 3 = some [3] := ⟨by kernel_rfl, by kernel_rfl⟩
theorem env_of_laid {W : World} (h0 : laidMetH Tryz.prog Rows.fnExactFunsRow.laid W) (hsh : W.ShapedOpen Tryz.prog) : EnvA W := by
  have h := laid_plain h0
  have h2 : laidMet Tryz.prog (("internal/strconv.uint64pow10", Rows.laid_internal_strconv_uint64pow10) :: _) W := h.tail.tail
  have h4 : laidMet Tryz.prog (("strconv.ErrRange", Rows.laid_strconv_ErrRange) :: ("strconv.ErrSyntax", Rows.laid_strconv_ErrSyntax) :: _) W := h2.tail.tail
  have h7 : laidMet Tryz.prog (("strings.asciiSpace", Rows.laid_strings_asciiSpace) :: _) W := h4.tail.tail.tail
  rw [dPow] at h2
  rw [dAsc] at h7
  obtain ⟨a0, s0, hv0, -, -, -⟩ := laid_sentinel h4 gEr gErT Tryz.underlying107 rowE Tryz.underlying190 Tryz.underlying192 rfl rfl Tryz.underlying9 (by kernel_rfl) (by kernel_rfl)
  obtain ⟨a1, s1, hv1, -, -, -⟩ := laid_sentinel h4.tail gEs gEsT Tryz.underlying107 rowE Tryz.underlying190 Tryz.underlying192 rfl rfl Tryz.underlying9 (by kernel_rfl) (by kernel_rfl)
  exact ⟨cell_of_shapedOpen_int (t := 3) (zero := #[.int .i64 0]) hsh (of_decide_eq_true (by kernel_rfl)) (by kernel_rfl) rfl mxT.1 mxT.2 Tryz.underlying3,
    Lib.tabIs_of_head gAsc gAscT Tryz.underlying140 Tryz.underlying5 (by kernel_rfl) (by kernel_rfl) h7,
    Lib.tabIs_of_head gPow gPowT Tryz.underlying168 Tryz.underlying144 (by kernel_rfl) (by kernel_rfl) h2, ⟨_, _, hv1⟩, ⟨_, _, hv0⟩⟩
/-- The cells of a table that is written out. -/
def cellsD : DataW Unit → Array Value
  | .agg l => (l.map (fun | .lit (.int k z) => Value.int k z | _ => undef)).toArray
  | _ => #[]
def putC (cs : Array Value) : Obj → Obj
  | .cells _ t fz => .cells cs t fz
  | o => o
def rangeS : ByteArray := { data := #[118, 97, 108, 117, 101, 32, 111, 117, 116, 32, 111, 102, 32, 114, 97, 110, 103, 101] }
def syntaxS : ByteArray := { data := #[105, 110, 118, 97, 108, 105, 100, 32, 115, 121, 110, 116, 97, 120] }
noncomputable def laidWorld (os : Os) : World :=
  let N := (World.settled Tryz.prog os).heap.size
  let w0 := World.holding Tryz.prog os ⟨#[.cells #[.string rangeS] 192, .cells #[.string syntaxS] 192, .cells (Lib.whiteT.map fun (z : Nat) => Value.int .u16 (z : Int)).toArray 183, .cells #[.slice (some ⟨N + 2, 0, none⟩) 7 7, .slice none 0 0, .int .i64 2] 180], #[], []⟩
  { w0 with heap := ((((((((w0.heap.modify 7 (putC #[.iface 190 (.pointer (some ⟨N, 0, none⟩))])).modify 6 (putC #[.iface 190 (.pointer (some ⟨N + 1, 0, none⟩))])).modify 4 (putC #[.pointer (some ⟨N + 3, 0, none⟩)])).modify 5 (putC (cellsD Rows.laid_internal_strconv_uint64pow10))).modify 8 (putC (cellsD Rows.laid_math_bits_deBruijn32tab))).modify 9 (putC (cellsD Rows.laid_math_bits_deBruijn64tab))).modify 1 (putC (cellsD Rows.laid_strings_asciiSpace))).modify 2 (putC (Lib.firstTab.map fun z => Value.int .u8 z).toArray)).modify 3 (putC ((List.range 16).flatMap fun i => [Value.int .u8 (Lib.accLo i), Value.int .u8 (Lib.accHi i)]).toArray) }
set_option maxRecDepth 100000 in
theorem laidWorld_met (os : Os) (args : Array Value) : laidMetH Tryz.prog Rows.fnExactFunsRow.laid ((laidWorld os).forCall (fun _ _ => 0) ⟨#[], args, []⟩).memory := by
  unfold laidMetH
  rw [show (Rows.fnExactFunsRow.laid.filter fun x => x.2.handleName?.isSome) = [] by kernel_rfl]
  exact laidMet_of_run3 10 (by kernel_rfl) (by kernel_rfl) (by kernel_rfl)
end Go.Proofs.YtlinbkgeahgkjaaGreatDoor
