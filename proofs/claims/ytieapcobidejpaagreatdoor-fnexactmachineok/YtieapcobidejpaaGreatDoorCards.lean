/-
  DERIVED. GIVEN WITH THE SEED: THE CARDS: each row of YtieapcobidejpaaGreatDoorRows.lean that lists a variable, with what it lists TIED to the program's text (the seventh form; the later family's looks); each row that meets fmt, with fmt's text TOLD by the authors' own Lean function (tested against real Go, not proved from fmt's source: count such statements apart). THE CARD IS WHAT COUNTS. Prove the row's statement (the work); the ties are given (YtieapcobidejpaaGreatDoorTie.lean); close each card by the builder's one call (the guide's Derived/Test/ToyasCard.lean, 'card_holds'). Laid BY PROGRAM, IN A SANDBOX (cutbox-door.mjs). By AI agents, Wed Nov 11 2026. No macro, syntax, notation, axiom, sorry.
-/
import Derived.Test.YtieapcobidejpaaGreatDoorRows
import GoSem.ClaimSeven
namespace Go.Proofs.YtieapcobidejpaaGreatDoor
namespace Rows

/-- THE TIED CARD OF 'laws.FnExactMachineOk'. -/
def fnExactMachineOkCard : Claim7 := { stood := { row := fnExactMachineOkRow, standIns := [], harness := (true, "088e4b57d7b5b76fa593206d7571b376f6cbf7e171886474a3eb64df384ed135"), looks := true }, kinds := [], alts := [], laidByText := true, laidKinds := [.data], laidTests := true, laidLooks := .later }
def FnExactMachineOkCardSaid : Prop := Claim7.holds Tryz.pinned (.plain (OpenSpec.ofChange fnExactMachineOkSpec)) fnExactMachineOkCard

/-- THE TIED CARD OF 'laws.FnExactMachineNew'. -/
def fnExactMachineNewCard : Claim7 := { stood := { row := fnExactMachineNewRow, standIns := [], harness := (true, "088e4b57d7b5b76fa593206d7571b376f6cbf7e171886474a3eb64df384ed135"), looks := true }, kinds := [], alts := [], laidByText := true, laidKinds := [.data], laidTests := true, laidLooks := .later }
def FnExactMachineNewCardSaid : Prop := Claim7.holds Tryz.pinned (.plain (OpenSpec.ofChange fnExactMachineNewSpec)) fnExactMachineNewCard

/-- THE SECOND FORM's CARD OF 'laws.FnExactMachineOk'. -/
def fnExactMachineOkUptoCard : Claim7 := { stood := { row := fnExactMachineOkUptoRow, standIns := [], harness := (true, "088e4b57d7b5b76fa593206d7571b376f6cbf7e171886474a3eb64df384ed135"), looks := true }, kinds := [], alts := [], laidByText := true, laidKinds := [.data], laidTests := true, laidLooks := .later }
def FnExactMachineOkUptoCardSaid : Prop := Claim7.holds Tryz.pinned (.plain (OpenSpec.upto fnExactMachineOkSpec)) fnExactMachineOkUptoCard

/-- THE SECOND FORM's CARD OF 'laws.FnExactMachineNew'. -/
def fnExactMachineNewUptoCard : Claim7 := { stood := { row := fnExactMachineNewUptoRow, standIns := [], harness := (true, "088e4b57d7b5b76fa593206d7571b376f6cbf7e171886474a3eb64df384ed135"), looks := true }, kinds := [], alts := [], laidByText := true, laidKinds := [.data], laidTests := true, laidLooks := .later }
def FnExactMachineNewUptoCardSaid : Prop := Claim7.holds Tryz.pinned (.plain (OpenSpec.upto fnExactMachineNewSpec)) fnExactMachineNewUptoCard
end Rows
end Go.Proofs.YtieapcobidejpaaGreatDoor
