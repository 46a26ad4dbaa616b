/-
  No cell of these rows narrows 'for every input' (looked for: loops, veiled, ifaces, maps, wideKeys, modest, calm, conditions, laid).
  DERIVED. THE GIVEN ROWS OF THIS SEAT. 3 by the template 'for every input the law returns true; each argument reads behind the call as it read before'; 0 by the template 'total and deterministic' (their statements: YtpbafjcoomfooaaGreatTotals.lean).
  GIVEN WITH THE SEED: the statements are not yours to turn. If you find one false, say at which input.
  Laid BY PROGRAM, IN A SANDBOX (cutbox-rows.mjs): the forced cells as the released guide's own fill.sh prints them over the translation 624301e92112fab1… (all of the seat's roots in one cut). By AI agents, Wed Nov 11 2026. No macro, syntax, notation, axiom, sorry.
-/
import Derived.Test.YtpbafjcoomfooaaGreatChecked
import GoSem.Claim
import GoSem.ClaimJoined
import GoSem.ClaimMapViews
import Derived.JoinedTies
import Derived.KernelRfl
namespace Go.Proofs.YtpbafjcoomfooaaGreat
/- THE CELL 'sum', in the pinned program and in every row, IS THE sha256 OF THE DUMP (.gsa) THAT YtpbafjcoomfooaaGreatProg.lean LOADS. Nothing in Lean hashes anything: it is a label: what it is worth is what the hold of that sum in a sandbox is worth. -/
noncomputable def Tryz.pinned : Pinned := { name := "ytpbafjcoomfooaagreat", sum := "624301e92112fab1e3088b8a76891664440bc75771f8fbbbd046cbdc89eef291", checked := Tryz.checked }
namespace Rows
def none {H : Type} : Left H := { results := [], args := [] }

/-- 'laws.FnTexts': WHATEVER THE INPUT: true; the input reads as it did. -/
def fnTextsSpec : ChangeSpec := { name := "fnTexts", fn := fun _ => fun
  | [d] => { results := [.lit (.bool true)], args := [d] }
  | _ => none }
def fnTextsRow : OpenClaim := { program := "ytpbafjcoomfooaagreat", sum := "624301e92112fab1e3088b8a76891664440bc75771f8fbbbd046cbdc89eef291", func := "loop.example/g00242/laws.FnTexts", spec := "fnTexts", unfollowed := true, recurses := true, apart := false }
def FnTextsSaid : Prop := fnTextsRow.holds Tryz.pinned (OpenSpec.ofChange fnTextsSpec)

/-- ITS FALSE NEIGHBOUR: 'it returns false'. Refute it at one input. -/
def fnTextsWrong : ChangeSpec := { name := "fnTexts", fn := fun _ => fun
  | [d] => { results := [.lit (.bool false)], args := [d] }
  | _ => none }
def FnTextsWrongFalsely : Prop := fnTextsRow.holds Tryz.pinned (OpenSpec.ofChange fnTextsWrong)

/-- 'laws.FnProps': WHATEVER THE INPUT: true; the input reads as it did. -/
def fnPropsSpec : ChangeSpec := { name := "fnProps", fn := fun _ => fun
  | [d] => { results := [.lit (.bool true)], args := [d] }
  | _ => none }
def fnPropsRow : OpenClaim := { program := "ytpbafjcoomfooaagreat", sum := "624301e92112fab1e3088b8a76891664440bc75771f8fbbbd046cbdc89eef291", func := "loop.example/g00242/laws.FnProps", spec := "fnProps", unfollowed := true, recurses := true, apart := false }
def FnPropsSaid : Prop := fnPropsRow.holds Tryz.pinned (OpenSpec.ofChange fnPropsSpec)

/-- ITS FALSE NEIGHBOUR: 'it returns false'. Refute it at one input. -/
def fnPropsWrong : ChangeSpec := { name := "fnProps", fn := fun _ => fun
  | [d] => { results := [.lit (.bool false)], args := [d] }
  | _ => none }
def FnPropsWrongFalsely : Prop := fnPropsRow.holds Tryz.pinned (OpenSpec.ofChange fnPropsWrong)

/-- 'laws.FnProtos': WHATEVER THE INPUT: true; the input reads as it did. -/
def fnProtosSpec : ChangeSpec := { name := "fnProtos", fn := fun _ => fun
  | [d] => { results := [.lit (.bool true)], args := [d] }
  | _ => none }
def fnProtosRow : OpenClaim := { program := "ytpbafjcoomfooaagreat", sum := "624301e92112fab1e3088b8a76891664440bc75771f8fbbbd046cbdc89eef291", func := "loop.example/g00242/laws.FnProtos", spec := "fnProtos", unfollowed := true, recurses := true, apart := false }
def FnProtosSaid : Prop := fnProtosRow.holds Tryz.pinned (OpenSpec.ofChange fnProtosSpec)

/-- ITS FALSE NEIGHBOUR: 'it returns false'. Refute it at one input. -/
def fnProtosWrong : ChangeSpec := { name := "fnProtos", fn := fun _ => fun
  | [d] => { results := [.lit (.bool false)], args := [d] }
  | _ => none }
def FnProtosWrongFalsely : Prop := fnProtosRow.holds Tryz.pinned (OpenSpec.ofChange fnProtosWrong)

/- THE SECOND FORM. 'bulk': how many values and letters a reading holds, each counted each time it is reached (what is shared counts as often as it is met; a slice's spare places count too). A statement '..UptoSaid' is the law's where the arguments, and the package variables that the reading takes, are together of bulk at most 1048576: NARROWER than '..Said'. Prove '..Said' where nothing that the law and all that it calls make is longer than what came in: it says more and counts as full. Else prove '..UptoSaid'. A law counts once. -/
mutual
def uptoBulk {H : Type} : DataW H → Nat
  | .lit (.string bytes) => bytes.length + 1
  | .lit _ => 1
  | .nil => 1
  | .ptr d => uptoBulk d + 1
  | .slice elems spare => uptoBulkAll elems + uptoBulkAll spare + 1
  | .agg parts => uptoBulkAll parts + 1
  | .iface _ d => uptoBulk d + 1
  | .map entries => uptoBulkEntries entries + 1
  | .held _ => 1
def uptoBulkAll {H : Type} : List (DataW H) → Nat
  | [] => 0
  | d :: r => uptoBulk d + uptoBulkAll r
def uptoBulkEntries {H : Type} : List (Lit × DataW H) → Nat
  | [] => 0
  | x :: r => uptoBulkEntry x + uptoBulkEntries r
def uptoBulkEntry {H : Type} : Lit × DataW H → Nat
  | (.string bytes, d) => bytes.length + uptoBulk d + 1
  | (_, d) => uptoBulk d + 1
 end
def uptoSmall : (H : Type) → List (DataW H) → Bool := fun _ ds => decide (uptoBulkAll ds ≤ 1048576)
def OpenSpec.upto (s : _root_.Go.ChangeSpec) : _root_.Go.OpenSpec := { _root_.Go.OpenSpec.ofChange s with cond := some uptoSmall }

/-- 'laws.FnTexts', WHERE WHAT IT READS IS OF BULK AT MOST 1048576: true; the input reads as it did. -/
def fnTextsUptoRow : OpenClaim := { program := "ytpbafjcoomfooaagreat", sum := "624301e92112fab1e3088b8a76891664440bc75771f8fbbbd046cbdc89eef291", func := "loop.example/g00242/laws.FnTexts", spec := "fnTexts", unfollowed := true, recurses := true, apart := false, narrowed := true }
def FnTextsUptoSaid : Prop := fnTextsUptoRow.holds Tryz.pinned (OpenSpec.upto fnTextsSpec)

/-- 'laws.FnProps', WHERE WHAT IT READS IS OF BULK AT MOST 1048576: true; the input reads as it did. -/
def fnPropsUptoRow : OpenClaim := { program := "ytpbafjcoomfooaagreat", sum := "624301e92112fab1e3088b8a76891664440bc75771f8fbbbd046cbdc89eef291", func := "loop.example/g00242/laws.FnProps", spec := "fnProps", unfollowed := true, recurses := true, apart := false, narrowed := true }
def FnPropsUptoSaid : Prop := fnPropsUptoRow.holds Tryz.pinned (OpenSpec.upto fnPropsSpec)

/-- 'laws.FnProtos', WHERE WHAT IT READS IS OF BULK AT MOST 1048576: true; the input reads as it did. -/
def fnProtosUptoRow : OpenClaim := { program := "ytpbafjcoomfooaagreat", sum := "624301e92112fab1e3088b8a76891664440bc75771f8fbbbd046cbdc89eef291", func := "loop.example/g00242/laws.FnProtos", spec := "fnProtos", unfollowed := true, recurses := true, apart := false, narrowed := true }
def FnProtosUptoSaid : Prop := fnProtosUptoRow.holds Tryz.pinned (OpenSpec.upto fnProtosSpec)

end Rows
end Go.Proofs.YtpbafjcoomfooaaGreat
