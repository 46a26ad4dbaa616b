/-
  No cell of these rows narrows 'for every input' (looked for: loops, veiled, ifaces, maps, wideKeys, modest, calm, conditions, laid).
  DERIVED. THE GIVEN ROWS OF THIS SEAT. 4 by the template 'for every input the law returns true; each argument reads behind the call as it read before'; 0 by the template 'total and deterministic' (their statements: YthkhlmbhickdbaaTotals.lean).
  GIVEN WITH THE SEED: the statements are not yours to turn. If you find one false, say at which input.
  Laid BY PROGRAM, IN A SANDBOX (cutbox-rows.mjs): the forced cells as the released guide's own fill.sh prints them over the translation a688e992b45b341f… (all of the seat's roots in one cut). By AI agents, Wed Nov 11 2026. No macro, syntax, notation, axiom, sorry.
-/
import Derived.Test.YthkhlmbhickdbaaChecked
import GoSem.Claim
import GoSem.ClaimJoined
import GoSem.ClaimMapViews
import Derived.JoinedTies
import Derived.KernelRfl
namespace Go.Proofs.Ythkhlmbhickdbaa
/- THE CELL 'sum', in the pinned program and in every row, IS THE sha256 OF THE DUMP (.gsa) THAT YthkhlmbhickdbaaProg.lean LOADS. Nothing in Lean hashes anything: it is a label: what it is worth is what the hold of that sum in a sandbox is worth. -/
noncomputable def Try.pinned : Pinned := { name := "ythkhlmbhickdbaa", sum := "a688e992b45b341f0312432bd4943e779b352f39cdb47010bb4853b86546e83a", checked := Try.checked }
namespace Rows
def none {H : Type} : Left H := { results := [], args := [] }

/-- 'laws.FnExactTextFind': WHATEVER THE INPUT: true; the input reads as it did. -/
def fnExactTextFindSpec : ChangeSpec := { name := "fnExactTextFind", fn := fun _ => fun
  | [d1, d2] => { results := [.lit (.bool true)], args := [d1, d2] }
  | _ => none }
def fnExactTextFindRow : OpenClaim := { program := "ythkhlmbhickdbaa", sum := "a688e992b45b341f0312432bd4943e779b352f39cdb47010bb4853b86546e83a", func := "loop.example/g00242/laws.FnExactTextFind", spec := "fnExactTextFind", unfollowed := true, recurses := true, apart := false }
def FnExactTextFindSaid : Prop := fnExactTextFindRow.holds Try.pinned (OpenSpec.ofChange fnExactTextFindSpec)

/-- ITS FALSE NEIGHBOUR: 'it returns false'. Refute it at one input. -/
def fnExactTextFindWrong : ChangeSpec := { name := "fnExactTextFind", fn := fun _ => fun
  | [d1, d2] => { results := [.lit (.bool false)], args := [d1, d2] }
  | _ => none }
def FnExactTextFindWrongFalsely : Prop := fnExactTextFindRow.holds Try.pinned (OpenSpec.ofChange fnExactTextFindWrong)

/-- 'laws.FnExactTextPut': WHATEVER THE INPUT: true; the input reads as it did. -/
def fnExactTextPutSpec : ChangeSpec := { name := "fnExactTextPut", fn := fun _ => fun
  | [d1, d2] => { results := [.lit (.bool true)], args := [d1, d2] }
  | _ => none }
def fnExactTextPutRow : OpenClaim := { program := "ythkhlmbhickdbaa", sum := "a688e992b45b341f0312432bd4943e779b352f39cdb47010bb4853b86546e83a", func := "loop.example/g00242/laws.FnExactTextPut", spec := "fnExactTextPut", unfollowed := true, recurses := true, apart := false }
def FnExactTextPutSaid : Prop := fnExactTextPutRow.holds Try.pinned (OpenSpec.ofChange fnExactTextPutSpec)

/-- ITS FALSE NEIGHBOUR: 'it returns false'. Refute it at one input. -/
def fnExactTextPutWrong : ChangeSpec := { name := "fnExactTextPut", fn := fun _ => fun
  | [d1, d2] => { results := [.lit (.bool false)], args := [d1, d2] }
  | _ => none }
def FnExactTextPutWrongFalsely : Prop := fnExactTextPutRow.holds Try.pinned (OpenSpec.ofChange fnExactTextPutWrong)

/-- 'laws.FnExactLook': WHATEVER THE INPUT: true; the input reads as it did. -/
def fnExactLookSpec : ChangeSpec := { name := "fnExactLook", fn := fun _ => fun
  | [d1, d2, d3] => { results := [.lit (.bool true)], args := [d1, d2, d3] }
  | _ => none }
def fnExactLookRow : OpenClaim := { program := "ythkhlmbhickdbaa", sum := "a688e992b45b341f0312432bd4943e779b352f39cdb47010bb4853b86546e83a", func := "loop.example/g00242/laws.FnExactLook", spec := "fnExactLook", unfollowed := true, recurses := true, apart := false }
def FnExactLookSaid : Prop := fnExactLookRow.holds Try.pinned (OpenSpec.ofChange fnExactLookSpec)

/-- ITS FALSE NEIGHBOUR: 'it returns false'. Refute it at one input. -/
def fnExactLookWrong : ChangeSpec := { name := "fnExactLook", fn := fun _ => fun
  | [d1, d2, d3] => { results := [.lit (.bool false)], args := [d1, d2, d3] }
  | _ => none }
def FnExactLookWrongFalsely : Prop := fnExactLookRow.holds Try.pinned (OpenSpec.ofChange fnExactLookWrong)

/-- 'laws.FnExactPropSet': WHATEVER THE INPUT: true; the input reads as it did. -/
def fnExactPropSetSpec : ChangeSpec := { name := "fnExactPropSet", fn := fun _ => fun
  | [d1, d2, d3, d4] => { results := [.lit (.bool true)], args := [d1, d2, d3, d4] }
  | _ => none }
def fnExactPropSetRow : OpenClaim := { program := "ythkhlmbhickdbaa", sum := "a688e992b45b341f0312432bd4943e779b352f39cdb47010bb4853b86546e83a", func := "loop.example/g00242/laws.FnExactPropSet", spec := "fnExactPropSet", unfollowed := true, recurses := true, apart := false }
def FnExactPropSetSaid : Prop := fnExactPropSetRow.holds Try.pinned (OpenSpec.ofChange fnExactPropSetSpec)

/-- ITS FALSE NEIGHBOUR: 'it returns false'. Refute it at one input. -/
def fnExactPropSetWrong : ChangeSpec := { name := "fnExactPropSet", fn := fun _ => fun
  | [d1, d2, d3, d4] => { results := [.lit (.bool false)], args := [d1, d2, d3, d4] }
  | _ => none }
def FnExactPropSetWrongFalsely : Prop := fnExactPropSetRow.holds Try.pinned (OpenSpec.ofChange fnExactPropSetWrong)

/- THE SECOND FORM. 'bulk': how many values and letters a reading holds, each counted each time it is reached (what is shared counts as often as it is met; a slice's spare places count too). A statement '..UptoSaid' is the law's where the arguments, and the package variables that the reading takes, are together of bulk at most 1048576: NARROWER than '..Said'. Prove '..Said' where nothing that the law and all that it calls make is longer than what came in: it says more and counts as full. Else prove '..UptoSaid'. A law counts once. -/
mutual
def uptoBulk {H : Type} : DataW H → Nat
  | .lit (.string bytes) => bytes.length + 1
  | .lit _ => 1
  | .nil => 1
  | .ptr d => uptoBulk d + 1
  | .slice elems spare => uptoBulkAll elems + uptoBulkAll spare + 1
  | .agg parts => uptoBulkAll parts + 1
  | .iface _ d => uptoBulk d + 1
  | .map entries => uptoBulkEntries entries + 1
  | .held _ => 1
def uptoBulkAll {H : Type} : List (DataW H) → Nat
  | [] => 0
  | d :: r => uptoBulk d + uptoBulkAll r
def uptoBulkEntries {H : Type} : List (Lit × DataW H) → Nat
  | [] => 0
  | x :: r => uptoBulkEntry x + uptoBulkEntries r
def uptoBulkEntry {H : Type} : Lit × DataW H → Nat
  | (.string bytes, d) => bytes.length + uptoBulk d + 1
  | (_, d) => uptoBulk d + 1
 end
def uptoSmall : (H : Type) → List (DataW H) → Bool := fun _ ds => decide (uptoBulkAll ds ≤ 1048576)
def OpenSpec.upto (s : _root_.Go.ChangeSpec) : _root_.Go.OpenSpec := { _root_.Go.OpenSpec.ofChange s with cond := some uptoSmall }

/-- 'laws.FnExactTextFind', WHERE WHAT IT READS IS OF BULK AT MOST 1048576: true; the input reads as it did. -/
def fnExactTextFindUptoRow : OpenClaim := { program := "ythkhlmbhickdbaa", sum := "a688e992b45b341f0312432bd4943e779b352f39cdb47010bb4853b86546e83a", func := "loop.example/g00242/laws.FnExactTextFind", spec := "fnExactTextFind", unfollowed := true, recurses := true, apart := false, narrowed := true }
def FnExactTextFindUptoSaid : Prop := fnExactTextFindUptoRow.holds Try.pinned (OpenSpec.upto fnExactTextFindSpec)

/-- 'laws.FnExactTextPut', WHERE WHAT IT READS IS OF BULK AT MOST 1048576: true; the input reads as it did. -/
def fnExactTextPutUptoRow : OpenClaim := { program := "ythkhlmbhickdbaa", sum := "a688e992b45b341f0312432bd4943e779b352f39cdb47010bb4853b86546e83a", func := "loop.example/g00242/laws.FnExactTextPut", spec := "fnExactTextPut", unfollowed := true, recurses := true, apart := false, narrowed := true }
def FnExactTextPutUptoSaid : Prop := fnExactTextPutUptoRow.holds Try.pinned (OpenSpec.upto fnExactTextPutSpec)

/-- 'laws.FnExactLook', WHERE WHAT IT READS IS OF BULK AT MOST 1048576: true; the input reads as it did. -/
def fnExactLookUptoRow : OpenClaim := { program := "ythkhlmbhickdbaa", sum := "a688e992b45b341f0312432bd4943e779b352f39cdb47010bb4853b86546e83a", func := "loop.example/g00242/laws.FnExactLook", spec := "fnExactLook", unfollowed := true, recurses := true, apart := false, narrowed := true }
def FnExactLookUptoSaid : Prop := fnExactLookUptoRow.holds Try.pinned (OpenSpec.upto fnExactLookSpec)

/-- 'laws.FnExactPropSet', WHERE WHAT IT READS IS OF BULK AT MOST 1048576: true; the input reads as it did. -/
def fnExactPropSetUptoRow : OpenClaim := { program := "ythkhlmbhickdbaa", sum := "a688e992b45b341f0312432bd4943e779b352f39cdb47010bb4853b86546e83a", func := "loop.example/g00242/laws.FnExactPropSet", spec := "fnExactPropSet", unfollowed := true, recurses := true, apart := false, narrowed := true }
def FnExactPropSetUptoSaid : Prop := fnExactPropSetUptoRow.holds Try.pinned (OpenSpec.upto fnExactPropSetSpec)

end Rows
end Go.Proofs.Ythkhlmbhickdbaa
