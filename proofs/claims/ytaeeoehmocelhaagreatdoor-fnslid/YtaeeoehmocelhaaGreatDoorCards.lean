/-
  DERIVED. GIVEN WITH THE SEED: THE CARDS: each row of YtaeeoehmocelhaaGreatDoorRows.lean that lists a variable, with what it lists TIED to the program's text (the seventh form; the later family's looks); each row that meets fmt, with fmt's text TOLD by the authors' own Lean function (tested against real Go, not proved from fmt's source: count such statements apart). THE CARD IS WHAT COUNTS. Prove the row's statement (the work); the ties are given (YtaeeoehmocelhaaGreatDoorTie.lean); close each card by the builder's one call (the guide's Derived/Test/ToyasCard.lean, 'card_holds'). Laid BY PROGRAM, IN A SANDBOX (cutbox-door.mjs). By AI agents, Wed Nov 11 2026. No macro, syntax, notation, axiom, sorry.
-/
import Derived.Test.YtaeeoehmocelhaaGreatDoorRows
import GoSem.ClaimSeven
namespace Go.Proofs.YtaeeoehmocelhaaGreatDoor
namespace Rows

/-- THE TIED CARD OF 'laws.FnSlid'. -/
def fnSlidCard : Claim7 := { stood := { row := fnSlidRow, standIns := [], harness := (true, "f0b75e07775fe5bda020a901834a098d12946d92dbbcd655ef581d5831ca2e00"), looks := true }, kinds := [], alts := [], laidByText := true, laidKinds := [.data, .data, .data], laidTests := true, laidLooks := .later }
def FnSlidCardSaid : Prop := Claim7.holds Tryz.pinned (.plain (OpenSpec.ofChange fnSlidSpec)) fnSlidCard

/-- THE TIED CARD OF 'laws.FnPictures'. -/
def fnPicturesCard : Claim7 := { stood := { row := fnPicturesRow, standIns := [], harness := (true, "f0b75e07775fe5bda020a901834a098d12946d92dbbcd655ef581d5831ca2e00"), looks := true }, kinds := [], alts := [], laidByText := true, laidKinds := [.data, .data, .data], laidTests := true, laidLooks := .later }
def FnPicturesCardSaid : Prop := Claim7.holds Tryz.pinned (.plain (OpenSpec.ofChange fnPicturesSpec)) fnPicturesCard

/-- THE SECOND FORM's CARD OF 'laws.FnSlid'. -/
def fnSlidUptoCard : Claim7 := { stood := { row := fnSlidUptoRow, standIns := [], harness := (true, "f0b75e07775fe5bda020a901834a098d12946d92dbbcd655ef581d5831ca2e00"), looks := true }, kinds := [], alts := [], laidByText := true, laidKinds := [.data, .data, .data], laidTests := true, laidLooks := .later }
def FnSlidUptoCardSaid : Prop := Claim7.holds Tryz.pinned (.plain (OpenSpec.upto fnSlidSpec)) fnSlidUptoCard

/-- THE SECOND FORM's CARD OF 'laws.FnPictures'. -/
def fnPicturesUptoCard : Claim7 := { stood := { row := fnPicturesUptoRow, standIns := [], harness := (true, "f0b75e07775fe5bda020a901834a098d12946d92dbbcd655ef581d5831ca2e00"), looks := true }, kinds := [], alts := [], laidByText := true, laidKinds := [.data, .data, .data], laidTests := true, laidLooks := .later }
def FnPicturesUptoCardSaid : Prop := Claim7.holds Tryz.pinned (.plain (OpenSpec.upto fnPicturesSpec)) fnPicturesUptoCard
end Rows
end Go.Proofs.YtaeeoehmocelhaaGreatDoor
