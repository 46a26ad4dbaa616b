/-
  NARROWER THAN 'FOR EVERY INPUT', by the rows' own cells (each row's printed sentence says how): FnExactLive: laid · FnExactSound: laid · FnExactMachineNew: laid.
  DERIVED. THE GIVEN ROWS OF THIS SEAT. 3 by the template 'for every input the law returns true; each argument reads behind the call as it read before'; 0 by the template 'total and deterministic' (their statements: YtgempjjnfpmndaaGreatDoorTotals.lean).
  GIVEN WITH THE SEED: the statements are not yours to turn. If you find one false, say at which input.
  Laid BY PROGRAM, IN A SANDBOX (cutbox-rows.mjs): the forced cells as the released guide's own fill.sh prints them over the translation 1ec94e343f77337b… (all of the seat's roots in one cut). By AI agents, Wed Nov 11 2026. No macro, syntax, notation, axiom, sorry.
-/
import Derived.Test.YtgempjjnfpmndaaGreatDoorChecked
import GoSem.Claim
import GoSem.ClaimJoined
import GoSem.ClaimMapViews
import Derived.JoinedTies
import Derived.KernelRfl
namespace Go.Proofs.YtgempjjnfpmndaaGreatDoor
/- THE CELL 'sum', in the pinned program and in every row, IS THE sha256 OF THE DUMP (.gsa) THAT YtgempjjnfpmndaaGreatDoorProg.lean LOADS. Nothing in Lean hashes anything: it is a label: what it is worth is what the hold of that sum in a sandbox is worth. -/
noncomputable def Tryz.pinned : Pinned := { name := "ytgempjjnfpmndaagreatdoor", sum := "1ec94e343f77337bb0717ac71351b8026664474a1b47e45ebf57686da9e9daf9", checked := Tryz.checked }
namespace Rows
def none {H : Type} : Left H := { results := [], args := [] }

/- WHAT THE LISTED PACKAGE-LEVEL VARIABLES READ AS WHEN THE CALL BEGINS. Each datum BY PROGRAM (the guide's laid-datum.mjs) off the statement by which the dump's own 'gosem.cut.vars' lays the variable. In a bare row this is a premise. The card (YtgempjjnfpmndaaGreatDoorCards.lean) ties it to the program's text. -/
def laid_loop_example_g00242_impl_opForms {H : Type} : DataW H := .agg [.agg [.lit (.string []), .lit (.int .i64 0), .lit (.int .i64 0)], .agg [.lit (.string [105, 110, 116]), .lit (.int .i64 1), .lit (.int .i64 0)], .agg [.lit (.string [116, 101, 120, 116]), .lit (.int .i64 2), .lit (.int .i64 0)], .agg [.lit (.string [117, 110, 100, 101, 102]), .lit (.int .i64 0), .lit (.int .i64 0)], .agg [.lit (.string [110, 117, 108, 108]), .lit (.int .i64 0), .lit (.int .i64 0)], .agg [.lit (.string [116, 114, 117, 101]), .lit (.int .i64 0), .lit (.int .i64 0)], .agg [.lit (.string [102, 97, 108, 115, 101]), .lit (.int .i64 0), .lit (.int .i64 0)], .agg [.lit (.string [108, 111, 97, 100]), .lit (.int .i64 3), .lit (.int .i64 4)], .agg [.lit (.string [115, 116, 111, 114, 101]), .lit (.int .i64 3), .lit (.int .i64 4)], .agg [.lit (.string [103, 101, 116]), .lit (.int .i64 2), .lit (.int .i64 0)], .agg [.lit (.string [112, 117, 116]), .lit (.int .i64 2), .lit (.int .i64 0)], .agg [.lit (.string [111, 98, 106]), .lit (.int .i64 0), .lit (.int .i64 0)], .agg [.lit (.string [99, 97, 108, 108]), .lit (.int .i64 5), .lit (.int .i64 0)], .agg [.lit (.string [114, 101, 116, 117, 114, 110]), .lit (.int .i64 0), .lit (.int .i64 0)], .agg [.lit (.string [97, 100, 100]), .lit (.int .i64 0), .lit (.int .i64 0)], .agg [.lit (.string [115, 117, 98]), .lit (.int .i64 0), .lit (.int .i64 0)], .agg [.lit (.string [109, 117, 108]), .lit (.int .i64 0), .lit (.int .i64 0)], .agg [.lit (.string [108, 101, 115, 115]), .lit (.int .i64 0), .lit (.int .i64 0)], .agg [.lit (.string [115, 97, 109, 101]), .lit (.int .i64 0), .lit (.int .i64 0)], .agg [.lit (.string [110, 111, 116]), .lit (.int .i64 0), .lit (.int .i64 0)], .agg [.lit (.string [106, 117, 109, 112]), .lit (.int .i64 6), .lit (.int .i64 0)], .agg [.lit (.string [101, 108, 115, 101]), .lit (.int .i64 6), .lit (.int .i64 0)], .agg [.lit (.string [112, 114, 105, 110, 116]), .lit (.int .i64 0), .lit (.int .i64 0)], .agg [.lit (.string [112, 111, 112]), .lit (.int .i64 0), .lit (.int .i64 0)], .agg [.lit (.string [102, 117, 110]), .lit (.int .i64 7), .lit (.int .i64 0)], .agg [.lit (.string [102, 105, 101, 108, 100]), .lit (.int .i64 2), .lit (.int .i64 0)]]

/-- 'laws.FnExactLive': WHATEVER THE INPUT: true; the input reads as it did. -/
def fnExactLiveSpec : ChangeSpec := { name := "fnExactLive", vars := ["loop.example/g00242/impl.opForms"], fn := fun _ => fun
  | [d, g1] => { results := [.lit (.bool true)], args := [d], vars := [g1] }
  | _ => none }
def fnExactLiveRow : OpenClaim := { program := "ytgempjjnfpmndaagreatdoor", sum := "1ec94e343f77337bb0717ac71351b8026664474a1b47e45ebf57686da9e9daf9", func := "loop.example/g00242/laws.FnExactLive", spec := "fnExactLive", unfollowed := true, recurses := true, named := ["loop.example/g00242/impl.opForms"], apart := false, laid := [("loop.example/g00242/impl.opForms", laid_loop_example_g00242_impl_opForms)] }
def FnExactLiveSaid : Prop := fnExactLiveRow.holds Tryz.pinned (OpenSpec.ofChange fnExactLiveSpec)

/-- ITS FALSE NEIGHBOUR: 'it returns false'. Refute it at one input. -/
def fnExactLiveWrong : ChangeSpec := { name := "fnExactLive", vars := ["loop.example/g00242/impl.opForms"], fn := fun _ => fun
  | [d, g1] => { results := [.lit (.bool false)], args := [d], vars := [g1] }
  | _ => none }
def FnExactLiveWrongFalsely : Prop := fnExactLiveRow.holds Tryz.pinned (OpenSpec.ofChange fnExactLiveWrong)

/-- 'laws.FnExactSound': WHATEVER THE INPUT: true; the input reads as it did. -/
def fnExactSoundSpec : ChangeSpec := { name := "fnExactSound", vars := ["loop.example/g00242/impl.opForms"], fn := fun _ => fun
  | [d, g1] => { results := [.lit (.bool true)], args := [d], vars := [g1] }
  | _ => none }
def fnExactSoundRow : OpenClaim := { program := "ytgempjjnfpmndaagreatdoor", sum := "1ec94e343f77337bb0717ac71351b8026664474a1b47e45ebf57686da9e9daf9", func := "loop.example/g00242/laws.FnExactSound", spec := "fnExactSound", unfollowed := true, recurses := true, named := ["loop.example/g00242/impl.opForms"], apart := false, laid := [("loop.example/g00242/impl.opForms", laid_loop_example_g00242_impl_opForms)] }
def FnExactSoundSaid : Prop := fnExactSoundRow.holds Tryz.pinned (OpenSpec.ofChange fnExactSoundSpec)

/-- ITS FALSE NEIGHBOUR: 'it returns false'. Refute it at one input. -/
def fnExactSoundWrong : ChangeSpec := { name := "fnExactSound", vars := ["loop.example/g00242/impl.opForms"], fn := fun _ => fun
  | [d, g1] => { results := [.lit (.bool false)], args := [d], vars := [g1] }
  | _ => none }
def FnExactSoundWrongFalsely : Prop := fnExactSoundRow.holds Tryz.pinned (OpenSpec.ofChange fnExactSoundWrong)

/-- 'laws.FnExactMachineNew': WHATEVER THE INPUT: true; the input reads as it did. -/
def fnExactMachineNewSpec : ChangeSpec := { name := "fnExactMachineNew", vars := ["loop.example/g00242/impl.opForms"], fn := fun _ => fun
  | [d1, d2, g1] => { results := [.lit (.bool true)], args := [d1, d2], vars := [g1] }
  | _ => none }
def fnExactMachineNewRow : OpenClaim := { program := "ytgempjjnfpmndaagreatdoor", sum := "1ec94e343f77337bb0717ac71351b8026664474a1b47e45ebf57686da9e9daf9", func := "loop.example/g00242/laws.FnExactMachineNew", spec := "fnExactMachineNew", unfollowed := true, recurses := true, named := ["loop.example/g00242/impl.opForms"], apart := false, laid := [("loop.example/g00242/impl.opForms", laid_loop_example_g00242_impl_opForms)] }
def FnExactMachineNewSaid : Prop := fnExactMachineNewRow.holds Tryz.pinned (OpenSpec.ofChange fnExactMachineNewSpec)

/-- ITS FALSE NEIGHBOUR: 'it returns false'. Refute it at one input. -/
def fnExactMachineNewWrong : ChangeSpec := { name := "fnExactMachineNew", vars := ["loop.example/g00242/impl.opForms"], fn := fun _ => fun
  | [d1, d2, g1] => { results := [.lit (.bool false)], args := [d1, d2], vars := [g1] }
  | _ => none }
def FnExactMachineNewWrongFalsely : Prop := fnExactMachineNewRow.holds Tryz.pinned (OpenSpec.ofChange fnExactMachineNewWrong)

/- THE SECOND FORM. 'bulk': how many values and letters a reading holds, each counted each time it is reached (what is shared counts as often as it is met; a slice's spare places count too). A statement '..UptoSaid' is the law's where the arguments, and the package variables that the reading takes, are together of bulk at most 1048576: NARROWER than '..Said'. Prove '..Said' where nothing that the law and all that it calls make is longer than what came in: it says more and counts as full. Else prove '..UptoSaid'. A law counts once. -/
mutual
def uptoBulk {H : Type} : DataW H → Nat
  | .lit (.string bytes) => bytes.length + 1
  | .lit _ => 1
  | .nil => 1
  | .ptr d => uptoBulk d + 1
  | .slice elems spare => uptoBulkAll elems + uptoBulkAll spare + 1
  | .agg parts => uptoBulkAll parts + 1
  | .iface _ d => uptoBulk d + 1
  | .map entries => uptoBulkEntries entries + 1
  | .held _ => 1
def uptoBulkAll {H : Type} : List (DataW H) → Nat
  | [] => 0
  | d :: r => uptoBulk d + uptoBulkAll r
def uptoBulkEntries {H : Type} : List (Lit × DataW H) → Nat
  | [] => 0
  | x :: r => uptoBulkEntry x + uptoBulkEntries r
def uptoBulkEntry {H : Type} : Lit × DataW H → Nat
  | (.string bytes, d) => bytes.length + uptoBulk d + 1
  | (_, d) => uptoBulk d + 1
 end
def uptoSmall : (H : Type) → List (DataW H) → Bool := fun _ ds => decide (uptoBulkAll ds ≤ 1048576)
def OpenSpec.upto (s : _root_.Go.ChangeSpec) : _root_.Go.OpenSpec := { _root_.Go.OpenSpec.ofChange s with cond := some uptoSmall }

/-- 'laws.FnExactLive', WHERE WHAT IT READS IS OF BULK AT MOST 1048576: true; the input reads as it did. -/
def fnExactLiveUptoRow : OpenClaim := { program := "ytgempjjnfpmndaagreatdoor", sum := "1ec94e343f77337bb0717ac71351b8026664474a1b47e45ebf57686da9e9daf9", func := "loop.example/g00242/laws.FnExactLive", spec := "fnExactLive", unfollowed := true, recurses := true, named := ["loop.example/g00242/impl.opForms"], apart := false, laid := [("loop.example/g00242/impl.opForms", laid_loop_example_g00242_impl_opForms)], narrowed := true }
def FnExactLiveUptoSaid : Prop := fnExactLiveUptoRow.holds Tryz.pinned (OpenSpec.upto fnExactLiveSpec)

/-- 'laws.FnExactSound', WHERE WHAT IT READS IS OF BULK AT MOST 1048576: true; the input reads as it did. -/
def fnExactSoundUptoRow : OpenClaim := { program := "ytgempjjnfpmndaagreatdoor", sum := "1ec94e343f77337bb0717ac71351b8026664474a1b47e45ebf57686da9e9daf9", func := "loop.example/g00242/laws.FnExactSound", spec := "fnExactSound", unfollowed := true, recurses := true, named := ["loop.example/g00242/impl.opForms"], apart := false, laid := [("loop.example/g00242/impl.opForms", laid_loop_example_g00242_impl_opForms)], narrowed := true }
def FnExactSoundUptoSaid : Prop := fnExactSoundUptoRow.holds Tryz.pinned (OpenSpec.upto fnExactSoundSpec)

/-- 'laws.FnExactMachineNew', WHERE WHAT IT READS IS OF BULK AT MOST 1048576: true; the input reads as it did. -/
def fnExactMachineNewUptoRow : OpenClaim := { program := "ytgempjjnfpmndaagreatdoor", sum := "1ec94e343f77337bb0717ac71351b8026664474a1b47e45ebf57686da9e9daf9", func := "loop.example/g00242/laws.FnExactMachineNew", spec := "fnExactMachineNew", unfollowed := true, recurses := true, named := ["loop.example/g00242/impl.opForms"], apart := false, laid := [("loop.example/g00242/impl.opForms", laid_loop_example_g00242_impl_opForms)], narrowed := true }
def FnExactMachineNewUptoSaid : Prop := fnExactMachineNewUptoRow.holds Tryz.pinned (OpenSpec.upto fnExactMachineNewSpec)

end Rows
end Go.Proofs.YtgempjjnfpmndaaGreatDoor
