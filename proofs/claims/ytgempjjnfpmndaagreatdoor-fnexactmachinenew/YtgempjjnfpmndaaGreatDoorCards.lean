/-
  DERIVED. GIVEN WITH THE SEED: THE CARDS: each row of YtgempjjnfpmndaaGreatDoorRows.lean that lists a variable, with what it lists TIED to the program's text (the seventh form; the later family's looks); each row that meets fmt, with fmt's text TOLD by the authors' own Lean function (tested against real Go, not proved from fmt's source: count such statements apart). THE CARD IS WHAT COUNTS. Prove the row's statement (the work); the ties are given (YtgempjjnfpmndaaGreatDoorTie.lean); close each card by the builder's one call (the guide's Derived/Test/ToyasCard.lean, 'card_holds'). Laid BY PROGRAM, IN A SANDBOX (cutbox-door.mjs). By AI agents, Wed Nov 11 2026. No macro, syntax, notation, axiom, sorry.
-/
import Derived.Test.YtgempjjnfpmndaaGreatDoorRows
import GoSem.ClaimSeven
namespace Go.Proofs.YtgempjjnfpmndaaGreatDoor
namespace Rows

/-- THE TIED CARD OF 'laws.FnExactLive'. -/
def fnExactLiveCard : Claim7 := { stood := { row := fnExactLiveRow, standIns := [], harness := (true, "1ad4683e424ec3dc8d67ee08f43eb14d7410ce7f9dddf09205d33763a4d769b6"), looks := true }, kinds := [], alts := [], laidByText := true, laidKinds := [.data], laidTests := true, laidLooks := .later }
def FnExactLiveCardSaid : Prop := Claim7.holds Tryz.pinned (.plain (OpenSpec.ofChange fnExactLiveSpec)) fnExactLiveCard

/-- THE TIED CARD OF 'laws.FnExactSound'. -/
def fnExactSoundCard : Claim7 := { stood := { row := fnExactSoundRow, standIns := [], harness := (true, "1ad4683e424ec3dc8d67ee08f43eb14d7410ce7f9dddf09205d33763a4d769b6"), looks := true }, kinds := [], alts := [], laidByText := true, laidKinds := [.data], laidTests := true, laidLooks := .later }
def FnExactSoundCardSaid : Prop := Claim7.holds Tryz.pinned (.plain (OpenSpec.ofChange fnExactSoundSpec)) fnExactSoundCard

/-- THE TIED CARD OF 'laws.FnExactMachineNew'. -/
def fnExactMachineNewCard : Claim7 := { stood := { row := fnExactMachineNewRow, standIns := [], harness := (true, "1ad4683e424ec3dc8d67ee08f43eb14d7410ce7f9dddf09205d33763a4d769b6"), looks := true }, kinds := [], alts := [], laidByText := true, laidKinds := [.data], laidTests := true, laidLooks := .later }
def FnExactMachineNewCardSaid : Prop := Claim7.holds Tryz.pinned (.plain (OpenSpec.ofChange fnExactMachineNewSpec)) fnExactMachineNewCard

/-- THE SECOND FORM's CARD OF 'laws.FnExactLive'. -/
def fnExactLiveUptoCard : Claim7 := { stood := { row := fnExactLiveUptoRow, standIns := [], harness := (true, "1ad4683e424ec3dc8d67ee08f43eb14d7410ce7f9dddf09205d33763a4d769b6"), looks := true }, kinds := [], alts := [], laidByText := true, laidKinds := [.data], laidTests := true, laidLooks := .later }
def FnExactLiveUptoCardSaid : Prop := Claim7.holds Tryz.pinned (.plain (OpenSpec.upto fnExactLiveSpec)) fnExactLiveUptoCard

/-- THE SECOND FORM's CARD OF 'laws.FnExactSound'. -/
def fnExactSoundUptoCard : Claim7 := { stood := { row := fnExactSoundUptoRow, standIns := [], harness := (true, "1ad4683e424ec3dc8d67ee08f43eb14d7410ce7f9dddf09205d33763a4d769b6"), looks := true }, kinds := [], alts := [], laidByText := true, laidKinds := [.data], laidTests := true, laidLooks := .later }
def FnExactSoundUptoCardSaid : Prop := Claim7.holds Tryz.pinned (.plain (OpenSpec.upto fnExactSoundSpec)) fnExactSoundUptoCard

/-- THE SECOND FORM's CARD OF 'laws.FnExactMachineNew'. -/
def fnExactMachineNewUptoCard : Claim7 := { stood := { row := fnExactMachineNewUptoRow, standIns := [], harness := (true, "1ad4683e424ec3dc8d67ee08f43eb14d7410ce7f9dddf09205d33763a4d769b6"), looks := true }, kinds := [], alts := [], laidByText := true, laidKinds := [.data], laidTests := true, laidLooks := .later }
def FnExactMachineNewUptoCardSaid : Prop := Claim7.holds Tryz.pinned (.plain (OpenSpec.upto fnExactMachineNewSpec)) fnExactMachineNewUptoCard
end Rows
end Go.Proofs.YtgempjjnfpmndaaGreatDoor
