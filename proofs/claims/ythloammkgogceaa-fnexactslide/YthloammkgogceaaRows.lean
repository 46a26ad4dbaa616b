/-
  No cell of these rows narrows 'for every input' (looked for: loops, veiled, ifaces, maps, wideKeys, modest, calm, conditions, laid).
  DERIVED. THE GIVEN ROWS OF THIS SEAT. 4 by the template 'for every input the law returns true; each argument reads behind the call as it read before'; 0 by the template 'total and deterministic' (their statements: YthloammkgogceaaTotals.lean).
  GIVEN WITH THE SEED: the statements are not yours to turn. If you find one false, say at which input.
  Laid BY PROGRAM, IN A SANDBOX (cutbox-rows.mjs): the forced cells as the released guide's own fill.sh prints them over the translation e59632cbb8d5faee… (all of the seat's roots in one cut). By AI agents, Wed Nov 11 2026. No macro, syntax, notation, axiom, sorry.
-/
import Derived.Test.YthloammkgogceaaChecked
import GoSem.Claim
import GoSem.ClaimJoined
import GoSem.ClaimMapViews
import Derived.JoinedTies
import Derived.KernelRfl
namespace Go.Proofs.Ythloammkgogceaa
/- THE CELL 'sum', in the pinned program and in every row, IS THE sha256 OF THE DUMP (.gsa) THAT YthloammkgogceaaProg.lean LOADS. Nothing in Lean hashes anything: it is a label: what it is worth is what the hold of that sum in a sandbox is worth. -/
noncomputable def Try.pinned : Pinned := { name := "ythloammkgogceaa", sum := "e59632cbb8d5faee58f933c73ea0679fed91248ab492611649e7dd71c6ee01b5", checked := Try.checked }
namespace Rows
def none {H : Type} : Left H := { results := [], args := [] }

/-- 'laws.FnExactRootsOk': WHATEVER THE INPUT: true; the input reads as it did. -/
def fnExactRootsOkSpec : ChangeSpec := { name := "fnExactRootsOk", fn := fun _ => fun
  | [d1, d2] => { results := [.lit (.bool true)], args := [d1, d2] }
  | _ => none }
def fnExactRootsOkRow : OpenClaim := { program := "ythloammkgogceaa", sum := "e59632cbb8d5faee58f933c73ea0679fed91248ab492611649e7dd71c6ee01b5", func := "loop.example/g00242/laws.FnExactRootsOk", spec := "fnExactRootsOk", unfollowed := true, recurses := true, apart := false }
def FnExactRootsOkSaid : Prop := fnExactRootsOkRow.holds Try.pinned (OpenSpec.ofChange fnExactRootsOkSpec)

/-- ITS FALSE NEIGHBOUR: 'it returns false'. Refute it at one input. -/
def fnExactRootsOkWrong : ChangeSpec := { name := "fnExactRootsOk", fn := fun _ => fun
  | [d1, d2] => { results := [.lit (.bool false)], args := [d1, d2] }
  | _ => none }
def FnExactRootsOkWrongFalsely : Prop := fnExactRootsOkRow.holds Try.pinned (OpenSpec.ofChange fnExactRootsOkWrong)

/-- 'laws.FnExactForward': WHATEVER THE INPUT: true; the input reads as it did. -/
def fnExactForwardSpec : ChangeSpec := { name := "fnExactForward", fn := fun _ => fun
  | [d] => { results := [.lit (.bool true)], args := [d] }
  | _ => none }
def fnExactForwardRow : OpenClaim := { program := "ythloammkgogceaa", sum := "e59632cbb8d5faee58f933c73ea0679fed91248ab492611649e7dd71c6ee01b5", func := "loop.example/g00242/laws.FnExactForward", spec := "fnExactForward", unfollowed := true, recurses := true, apart := false }
def FnExactForwardSaid : Prop := fnExactForwardRow.holds Try.pinned (OpenSpec.ofChange fnExactForwardSpec)

/-- ITS FALSE NEIGHBOUR: 'it returns false'. Refute it at one input. -/
def fnExactForwardWrong : ChangeSpec := { name := "fnExactForward", fn := fun _ => fun
  | [d] => { results := [.lit (.bool false)], args := [d] }
  | _ => none }
def FnExactForwardWrongFalsely : Prop := fnExactForwardRow.holds Try.pinned (OpenSpec.ofChange fnExactForwardWrong)

/-- 'laws.FnExactMoved': WHATEVER THE INPUT: true; the input reads as it did. -/
def fnExactMovedSpec : ChangeSpec := { name := "fnExactMoved", fn := fun _ => fun
  | [d1, d2] => { results := [.lit (.bool true)], args := [d1, d2] }
  | _ => none }
def fnExactMovedRow : OpenClaim := { program := "ythloammkgogceaa", sum := "e59632cbb8d5faee58f933c73ea0679fed91248ab492611649e7dd71c6ee01b5", func := "loop.example/g00242/laws.FnExactMoved", spec := "fnExactMoved", unfollowed := true, recurses := true, apart := false }
def FnExactMovedSaid : Prop := fnExactMovedRow.holds Try.pinned (OpenSpec.ofChange fnExactMovedSpec)

/-- ITS FALSE NEIGHBOUR: 'it returns false'. Refute it at one input. -/
def fnExactMovedWrong : ChangeSpec := { name := "fnExactMoved", fn := fun _ => fun
  | [d1, d2] => { results := [.lit (.bool false)], args := [d1, d2] }
  | _ => none }
def FnExactMovedWrongFalsely : Prop := fnExactMovedRow.holds Try.pinned (OpenSpec.ofChange fnExactMovedWrong)

/-- 'laws.FnExactSlide': WHATEVER THE INPUT: true; the input reads as it did. -/
def fnExactSlideSpec : ChangeSpec := { name := "fnExactSlide", fn := fun _ => fun
  | [d1, d2] => { results := [.lit (.bool true)], args := [d1, d2] }
  | _ => none }
def fnExactSlideRow : OpenClaim := { program := "ythloammkgogceaa", sum := "e59632cbb8d5faee58f933c73ea0679fed91248ab492611649e7dd71c6ee01b5", func := "loop.example/g00242/laws.FnExactSlide", spec := "fnExactSlide", unfollowed := true, recurses := true, apart := false }
def FnExactSlideSaid : Prop := fnExactSlideRow.holds Try.pinned (OpenSpec.ofChange fnExactSlideSpec)

/-- ITS FALSE NEIGHBOUR: 'it returns false'. Refute it at one input. -/
def fnExactSlideWrong : ChangeSpec := { name := "fnExactSlide", fn := fun _ => fun
  | [d1, d2] => { results := [.lit (.bool false)], args := [d1, d2] }
  | _ => none }
def FnExactSlideWrongFalsely : Prop := fnExactSlideRow.holds Try.pinned (OpenSpec.ofChange fnExactSlideWrong)

/- THE SECOND FORM. 'bulk': how many values and letters a reading holds, each counted each time it is reached (what is shared counts as often as it is met; a slice's spare places count too). A statement '..UptoSaid' is the law's where the arguments, and the package variables that the reading takes, are together of bulk at most 1048576: NARROWER than '..Said'. Prove '..Said' where nothing that the law and all that it calls make is longer than what came in: it says more and counts as full. Else prove '..UptoSaid'. A law counts once. -/
mutual
def uptoBulk {H : Type} : DataW H → Nat
  | .lit (.string bytes) => bytes.length + 1
  | .lit _ => 1
  | .nil => 1
  | .ptr d => uptoBulk d + 1
  | .slice elems spare => uptoBulkAll elems + uptoBulkAll spare + 1
  | .agg parts => uptoBulkAll parts + 1
  | .iface _ d => uptoBulk d + 1
  | .map entries => uptoBulkEntries entries + 1
  | .held _ => 1
def uptoBulkAll {H : Type} : List (DataW H) → Nat
  | [] => 0
  | d :: r => uptoBulk d + uptoBulkAll r
def uptoBulkEntries {H : Type} : List (Lit × DataW H) → Nat
  | [] => 0
  | x :: r => uptoBulkEntry x + uptoBulkEntries r
def uptoBulkEntry {H : Type} : Lit × DataW H → Nat
  | (.string bytes, d) => bytes.length + uptoBulk d + 1
  | (_, d) => uptoBulk d + 1
 end
def uptoSmall : (H : Type) → List (DataW H) → Bool := fun _ ds => decide (uptoBulkAll ds ≤ 1048576)
def OpenSpec.upto (s : _root_.Go.ChangeSpec) : _root_.Go.OpenSpec := { _root_.Go.OpenSpec.ofChange s with cond := some uptoSmall }

/-- 'laws.FnExactRootsOk', WHERE WHAT IT READS IS OF BULK AT MOST 1048576: true; the input reads as it did. -/
def fnExactRootsOkUptoRow : OpenClaim := { program := "ythloammkgogceaa", sum := "e59632cbb8d5faee58f933c73ea0679fed91248ab492611649e7dd71c6ee01b5", func := "loop.example/g00242/laws.FnExactRootsOk", spec := "fnExactRootsOk", unfollowed := true, recurses := true, apart := false, narrowed := true }
def FnExactRootsOkUptoSaid : Prop := fnExactRootsOkUptoRow.holds Try.pinned (OpenSpec.upto fnExactRootsOkSpec)

/-- 'laws.FnExactForward', WHERE WHAT IT READS IS OF BULK AT MOST 1048576: true; the input reads as it did. -/
def fnExactForwardUptoRow : OpenClaim := { program := "ythloammkgogceaa", sum := "e59632cbb8d5faee58f933c73ea0679fed91248ab492611649e7dd71c6ee01b5", func := "loop.example/g00242/laws.FnExactForward", spec := "fnExactForward", unfollowed := true, recurses := true, apart := false, narrowed := true }
def FnExactForwardUptoSaid : Prop := fnExactForwardUptoRow.holds Try.pinned (OpenSpec.upto fnExactForwardSpec)

/-- 'laws.FnExactMoved', WHERE WHAT IT READS IS OF BULK AT MOST 1048576: true; the input reads as it did. -/
def fnExactMovedUptoRow : OpenClaim := { program := "ythloammkgogceaa", sum := "e59632cbb8d5faee58f933c73ea0679fed91248ab492611649e7dd71c6ee01b5", func := "loop.example/g00242/laws.FnExactMoved", spec := "fnExactMoved", unfollowed := true, recurses := true, apart := false, narrowed := true }
def FnExactMovedUptoSaid : Prop := fnExactMovedUptoRow.holds Try.pinned (OpenSpec.upto fnExactMovedSpec)

/-- 'laws.FnExactSlide', WHERE WHAT IT READS IS OF BULK AT MOST 1048576: true; the input reads as it did. -/
def fnExactSlideUptoRow : OpenClaim := { program := "ythloammkgogceaa", sum := "e59632cbb8d5faee58f933c73ea0679fed91248ab492611649e7dd71c6ee01b5", func := "loop.example/g00242/laws.FnExactSlide", spec := "fnExactSlide", unfollowed := true, recurses := true, apart := false, narrowed := true }
def FnExactSlideUptoSaid : Prop := fnExactSlideUptoRow.holds Try.pinned (OpenSpec.upto fnExactSlideSpec)

end Rows
end Go.Proofs.Ythloammkgogceaa
