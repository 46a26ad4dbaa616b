/-
  No cell of these rows narrows 'for every input' (looked for: loops, veiled, ifaces, maps, wideKeys, modest, calm, conditions, laid).
  DERIVED. THE GIVEN ROWS OF THIS SEAT. 6 by the template 'for every input the law returns true; each argument reads behind the call as it read before'; 0 by the template 'total and deterministic' (their statements: YtcpbjibefcdmaabTotals.lean).
  GIVEN WITH THE SEED: the statements are not yours to turn. If you find one false, say at which input.
  Laid BY PROGRAM, IN A SANDBOX (cutbox-rows.mjs): the forced cells as the released guide's own fill.sh prints them over the translation c4c582207804d29b… (all of the seat's roots in one cut). By AI agents, Wed Nov 11 2026. No macro, syntax, notation, axiom, sorry.
-/
import Derived.Test.YtcpbjibefcdmaabChecked
import GoSem.Claim
import GoSem.ClaimJoined
import GoSem.ClaimMapViews
import Derived.JoinedTies
import Derived.KernelRfl
namespace Go.Proofs.Ytcpbjibefcdmaab
/- THE CELL 'sum', in the pinned program and in every row, IS THE sha256 OF THE DUMP (.gsa) THAT YtcpbjibefcdmaabProg.lean LOADS. Nothing in Lean hashes anything: it is a label: what it is worth is what the hold of that sum in a sandbox is worth. -/
noncomputable def Try.pinned : Pinned := { name := "ytcpbjibefcdmaab", sum := "c4c582207804d29b5c85b7b4a8b0b4e6a43f7f59fd3b51fd3a8a642e5fbcf1b1", checked := Try.checked }
namespace Rows
def none {H : Type} : Left H := { results := [], args := [] }

/-- 'laws.FnExactRefOf': WHATEVER THE INPUT: true; the input reads as it did. -/
def fnExactRefOfSpec : ChangeSpec := { name := "fnExactRefOf", fn := fun _ => fun
  | [d1, d2] => { results := [.lit (.bool true)], args := [d1, d2] }
  | _ => none }
def fnExactRefOfRow : OpenClaim := { program := "ytcpbjibefcdmaab", sum := "c4c582207804d29b5c85b7b4a8b0b4e6a43f7f59fd3b51fd3a8a642e5fbcf1b1", func := "loop.example/g00242/laws.FnExactRefOf", spec := "fnExactRefOf", apart := false }
def FnExactRefOfSaid : Prop := fnExactRefOfRow.holds Try.pinned (OpenSpec.ofChange fnExactRefOfSpec)

/-- ITS FALSE NEIGHBOUR: 'it returns false'. Refute it at one input. -/
def fnExactRefOfWrong : ChangeSpec := { name := "fnExactRefOf", fn := fun _ => fun
  | [d1, d2] => { results := [.lit (.bool false)], args := [d1, d2] }
  | _ => none }
def FnExactRefOfWrongFalsely : Prop := fnExactRefOfRow.holds Try.pinned (OpenSpec.ofChange fnExactRefOfWrong)

/-- 'laws.FnExactKind': WHATEVER THE INPUT: true; the input reads as it did. -/
def fnExactKindSpec : ChangeSpec := { name := "fnExactKind", fn := fun _ => fun
  | [d] => { results := [.lit (.bool true)], args := [d] }
  | _ => none }
def fnExactKindRow : OpenClaim := { program := "ytcpbjibefcdmaab", sum := "c4c582207804d29b5c85b7b4a8b0b4e6a43f7f59fd3b51fd3a8a642e5fbcf1b1", func := "loop.example/g00242/laws.FnExactKind", spec := "fnExactKind", apart := false }
def FnExactKindSaid : Prop := fnExactKindRow.holds Try.pinned (OpenSpec.ofChange fnExactKindSpec)

/-- ITS FALSE NEIGHBOUR: 'it returns false'. Refute it at one input. -/
def fnExactKindWrong : ChangeSpec := { name := "fnExactKind", fn := fun _ => fun
  | [d] => { results := [.lit (.bool false)], args := [d] }
  | _ => none }
def FnExactKindWrongFalsely : Prop := fnExactKindRow.holds Try.pinned (OpenSpec.ofChange fnExactKindWrong)

/-- 'laws.FnExactNum': WHATEVER THE INPUT: true; the input reads as it did. -/
def fnExactNumSpec : ChangeSpec := { name := "fnExactNum", fn := fun _ => fun
  | [d] => { results := [.lit (.bool true)], args := [d] }
  | _ => none }
def fnExactNumRow : OpenClaim := { program := "ytcpbjibefcdmaab", sum := "c4c582207804d29b5c85b7b4a8b0b4e6a43f7f59fd3b51fd3a8a642e5fbcf1b1", func := "loop.example/g00242/laws.FnExactNum", spec := "fnExactNum", apart := false }
def FnExactNumSaid : Prop := fnExactNumRow.holds Try.pinned (OpenSpec.ofChange fnExactNumSpec)

/-- ITS FALSE NEIGHBOUR: 'it returns false'. Refute it at one input. -/
def fnExactNumWrong : ChangeSpec := { name := "fnExactNum", fn := fun _ => fun
  | [d] => { results := [.lit (.bool false)], args := [d] }
  | _ => none }
def FnExactNumWrongFalsely : Prop := fnExactNumRow.holds Try.pinned (OpenSpec.ofChange fnExactNumWrong)

/-- 'laws.FnExactValueOk': WHATEVER THE INPUT: true; the input reads as it did. -/
def fnExactValueOkSpec : ChangeSpec := { name := "fnExactValueOk", fn := fun _ => fun
  | [d] => { results := [.lit (.bool true)], args := [d] }
  | _ => none }
def fnExactValueOkRow : OpenClaim := { program := "ytcpbjibefcdmaab", sum := "c4c582207804d29b5c85b7b4a8b0b4e6a43f7f59fd3b51fd3a8a642e5fbcf1b1", func := "loop.example/g00242/laws.FnExactValueOk", spec := "fnExactValueOk", apart := false }
def FnExactValueOkSaid : Prop := fnExactValueOkRow.holds Try.pinned (OpenSpec.ofChange fnExactValueOkSpec)

/-- ITS FALSE NEIGHBOUR: 'it returns false'. Refute it at one input. -/
def fnExactValueOkWrong : ChangeSpec := { name := "fnExactValueOk", fn := fun _ => fun
  | [d] => { results := [.lit (.bool false)], args := [d] }
  | _ => none }
def FnExactValueOkWrongFalsely : Prop := fnExactValueOkRow.holds Try.pinned (OpenSpec.ofChange fnExactValueOkWrong)

/-- 'laws.FnExactSlabOk': WHATEVER THE INPUT: true; the input reads as it did. -/
def fnExactSlabOkSpec : ChangeSpec := { name := "fnExactSlabOk", fn := fun _ => fun
  | [d] => { results := [.lit (.bool true)], args := [d] }
  | _ => none }
def fnExactSlabOkRow : OpenClaim := { program := "ytcpbjibefcdmaab", sum := "c4c582207804d29b5c85b7b4a8b0b4e6a43f7f59fd3b51fd3a8a642e5fbcf1b1", func := "loop.example/g00242/laws.FnExactSlabOk", spec := "fnExactSlabOk", unfollowed := true, recurses := true, apart := false }
def FnExactSlabOkSaid : Prop := fnExactSlabOkRow.holds Try.pinned (OpenSpec.ofChange fnExactSlabOkSpec)

/-- ITS FALSE NEIGHBOUR: 'it returns false'. Refute it at one input. -/
def fnExactSlabOkWrong : ChangeSpec := { name := "fnExactSlabOk", fn := fun _ => fun
  | [d] => { results := [.lit (.bool false)], args := [d] }
  | _ => none }
def FnExactSlabOkWrongFalsely : Prop := fnExactSlabOkRow.holds Try.pinned (OpenSpec.ofChange fnExactSlabOkWrong)

/-- 'laws.FnExactSlabNew': WHATEVER THE INPUT: true; the input reads as it did. -/
def fnExactSlabNewSpec : ChangeSpec := { name := "fnExactSlabNew", fn := fun _ => fun
  | [d] => { results := [.lit (.bool true)], args := [d] }
  | _ => none }
def fnExactSlabNewRow : OpenClaim := { program := "ytcpbjibefcdmaab", sum := "c4c582207804d29b5c85b7b4a8b0b4e6a43f7f59fd3b51fd3a8a642e5fbcf1b1", func := "loop.example/g00242/laws.FnExactSlabNew", spec := "fnExactSlabNew", apart := false }
def FnExactSlabNewSaid : Prop := fnExactSlabNewRow.holds Try.pinned (OpenSpec.ofChange fnExactSlabNewSpec)

/-- ITS FALSE NEIGHBOUR: 'it returns false'. Refute it at one input. -/
def fnExactSlabNewWrong : ChangeSpec := { name := "fnExactSlabNew", fn := fun _ => fun
  | [d] => { results := [.lit (.bool false)], args := [d] }
  | _ => none }
def FnExactSlabNewWrongFalsely : Prop := fnExactSlabNewRow.holds Try.pinned (OpenSpec.ofChange fnExactSlabNewWrong)

/- THE SECOND FORM. 'bulk': how many values and letters a reading holds, each counted each time it is reached (what is shared counts as often as it is met; a slice's spare places count too). A statement '..UptoSaid' is the law's where the arguments, and the package variables that the reading takes, are together of bulk at most 1048576: NARROWER than '..Said'. Prove '..Said' where nothing that the law and all that it calls make is longer than what came in: it says more and counts as full. Else prove '..UptoSaid'. A law counts once. -/
mutual
def uptoBulk {H : Type} : DataW H → Nat
  | .lit (.string bytes) => bytes.length + 1
  | .lit _ => 1
  | .nil => 1
  | .ptr d => uptoBulk d + 1
  | .slice elems spare => uptoBulkAll elems + uptoBulkAll spare + 1
  | .agg parts => uptoBulkAll parts + 1
  | .iface _ d => uptoBulk d + 1
  | .map entries => uptoBulkEntries entries + 1
  | .held _ => 1
def uptoBulkAll {H : Type} : List (DataW H) → Nat
  | [] => 0
  | d :: r => uptoBulk d + uptoBulkAll r
def uptoBulkEntries {H : Type} : List (Lit × DataW H) → Nat
  | [] => 0
  | x :: r => uptoBulkEntry x + uptoBulkEntries r
def uptoBulkEntry {H : Type} : Lit × DataW H → Nat
  | (.string bytes, d) => bytes.length + uptoBulk d + 1
  | (_, d) => uptoBulk d + 1
 end
def uptoSmall : (H : Type) → List (DataW H) → Bool := fun _ ds => decide (uptoBulkAll ds ≤ 1048576)
def OpenSpec.upto (s : _root_.Go.ChangeSpec) : _root_.Go.OpenSpec := { _root_.Go.OpenSpec.ofChange s with cond := some uptoSmall }

/-- 'laws.FnExactRefOf', WHERE WHAT IT READS IS OF BULK AT MOST 1048576: true; the input reads as it did. -/
def fnExactRefOfUptoRow : OpenClaim := { program := "ytcpbjibefcdmaab", sum := "c4c582207804d29b5c85b7b4a8b0b4e6a43f7f59fd3b51fd3a8a642e5fbcf1b1", func := "loop.example/g00242/laws.FnExactRefOf", spec := "fnExactRefOf", apart := false, narrowed := true }
def FnExactRefOfUptoSaid : Prop := fnExactRefOfUptoRow.holds Try.pinned (OpenSpec.upto fnExactRefOfSpec)

/-- 'laws.FnExactKind', WHERE WHAT IT READS IS OF BULK AT MOST 1048576: true; the input reads as it did. -/
def fnExactKindUptoRow : OpenClaim := { program := "ytcpbjibefcdmaab", sum := "c4c582207804d29b5c85b7b4a8b0b4e6a43f7f59fd3b51fd3a8a642e5fbcf1b1", func := "loop.example/g00242/laws.FnExactKind", spec := "fnExactKind", apart := false, narrowed := true }
def FnExactKindUptoSaid : Prop := fnExactKindUptoRow.holds Try.pinned (OpenSpec.upto fnExactKindSpec)

/-- 'laws.FnExactNum', WHERE WHAT IT READS IS OF BULK AT MOST 1048576: true; the input reads as it did. -/
def fnExactNumUptoRow : OpenClaim := { program := "ytcpbjibefcdmaab", sum := "c4c582207804d29b5c85b7b4a8b0b4e6a43f7f59fd3b51fd3a8a642e5fbcf1b1", func := "loop.example/g00242/laws.FnExactNum", spec := "fnExactNum", apart := false, narrowed := true }
def FnExactNumUptoSaid : Prop := fnExactNumUptoRow.holds Try.pinned (OpenSpec.upto fnExactNumSpec)

/-- 'laws.FnExactValueOk', WHERE WHAT IT READS IS OF BULK AT MOST 1048576: true; the input reads as it did. -/
def fnExactValueOkUptoRow : OpenClaim := { program := "ytcpbjibefcdmaab", sum := "c4c582207804d29b5c85b7b4a8b0b4e6a43f7f59fd3b51fd3a8a642e5fbcf1b1", func := "loop.example/g00242/laws.FnExactValueOk", spec := "fnExactValueOk", apart := false, narrowed := true }
def FnExactValueOkUptoSaid : Prop := fnExactValueOkUptoRow.holds Try.pinned (OpenSpec.upto fnExactValueOkSpec)

/-- 'laws.FnExactSlabOk', WHERE WHAT IT READS IS OF BULK AT MOST 1048576: true; the input reads as it did. -/
def fnExactSlabOkUptoRow : OpenClaim := { program := "ytcpbjibefcdmaab", sum := "c4c582207804d29b5c85b7b4a8b0b4e6a43f7f59fd3b51fd3a8a642e5fbcf1b1", func := "loop.example/g00242/laws.FnExactSlabOk", spec := "fnExactSlabOk", unfollowed := true, recurses := true, apart := false, narrowed := true }
def FnExactSlabOkUptoSaid : Prop := fnExactSlabOkUptoRow.holds Try.pinned (OpenSpec.upto fnExactSlabOkSpec)

/-- 'laws.FnExactSlabNew', WHERE WHAT IT READS IS OF BULK AT MOST 1048576: true; the input reads as it did. -/
def fnExactSlabNewUptoRow : OpenClaim := { program := "ytcpbjibefcdmaab", sum := "c4c582207804d29b5c85b7b4a8b0b4e6a43f7f59fd3b51fd3a8a642e5fbcf1b1", func := "loop.example/g00242/laws.FnExactSlabNew", spec := "fnExactSlabNew", apart := false, narrowed := true }
def FnExactSlabNewUptoSaid : Prop := fnExactSlabNewUptoRow.holds Try.pinned (OpenSpec.upto fnExactSlabNewSpec)

end Rows
end Go.Proofs.Ytcpbjibefcdmaab
