/-
  DERIVED. GIVEN WITH THE SEED: THE CARDS: each row of YtlinbkgeahgkjaaGreatDoorRows.lean that lists a variable, with what it lists TIED to the program's text (the seventh form; the later family's looks); each row that meets fmt, with fmt's text TOLD by the authors' own Lean function (tested against real Go, not proved from fmt's source: count such statements apart). THE CARD IS WHAT COUNTS. Prove the row's statement (the work); the ties are given (YtlinbkgeahgkjaaGreatDoorTie.lean); close each card by the builder's one call (the guide's Derived/Test/ToyasCard.lean, 'card_holds'). Laid BY PROGRAM, IN A SANDBOX (cutbox-door.mjs). By AI agents, Wed Nov 11 2026. No macro, syntax, notation, axiom, sorry.
-/
import Derived.Test.YtlinbkgeahgkjaaGreatDoorRows
import GoSem.ClaimSeven
namespace Go.Proofs.YtlinbkgeahgkjaaGreatDoor
namespace Rows

/-- THE TIED CARD OF 'laws.FnExactFuns'. -/
def fnExactFunsCard : Claim7 := { stood := { row := fnExactFunsRow, standIns := [], harness := (true, "93fdbe7c4ba08cabae74f4d7cbc52a62b993f20739afc7db5fc6e7ed4cbddb78"), looks := true }, kinds := [], alts := [], laidByText := true, laidKinds := [.data, .data, .data, .data, .sentinel, .sentinel, .listed, .data, .pinned], laidTests := true, laidLooks := .later }
def FnExactFunsCardSaid : Prop := Claim7.holds Tryz.pinned (.plain (OpenSpec.ofChange fnExactFunsSpec)) fnExactFunsCard

/-- THE SECOND FORM's CARD OF 'laws.FnExactFuns'. -/
def fnExactFunsUptoCard : Claim7 := { stood := { row := fnExactFunsUptoRow, standIns := [], harness := (true, "93fdbe7c4ba08cabae74f4d7cbc52a62b993f20739afc7db5fc6e7ed4cbddb78"), looks := true }, kinds := [], alts := [], laidByText := true, laidKinds := [.data, .data, .data, .data, .sentinel, .sentinel, .listed, .data, .pinned], laidTests := true, laidLooks := .later }
def FnExactFunsUptoCardSaid : Prop := Claim7.holds Tryz.pinned (.plain (OpenSpec.upto fnExactFunsSpec)) fnExactFunsUptoCard
end Rows
end Go.Proofs.YtlinbkgeahgkjaaGreatDoor
