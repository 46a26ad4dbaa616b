/-
  DERIVED. GIVEN WITH THE SEED: THE CARDS: each row of YtgnpllpinfhccaaGreatDoorRows.lean that lists a variable, with what it lists TIED to the program's text (the seventh form; the later family's looks); each row that meets fmt, with fmt's text TOLD by the authors' own Lean function (tested against real Go, not proved from fmt's source: count such statements apart). THE CARD IS WHAT COUNTS. Prove the row's statement (the work); the ties are given (YtgnpllpinfhccaaGreatDoorTie.lean); close each card by the builder's one call (the guide's Derived/Test/ToyasCard.lean, 'card_holds'). Laid BY PROGRAM, IN A SANDBOX (cutbox-door.mjs). By AI agents, Wed Nov 11 2026. No macro, syntax, notation, axiom, sorry.
-/
import Derived.Test.YtgnpllpinfhccaaGreatDoorRows
import GoSem.ClaimSeven
namespace Go.Proofs.YtgnpllpinfhccaaGreatDoor
namespace Rows

/-- THE TIED CARD OF 'laws.FnPictures'. -/
def fnPicturesCard : Claim7 := { stood := { row := fnPicturesRow, standIns := [], harness := (true, "11e35f26af284903ab3103816afa1c339e84bae968638056a82bb3d96778e42e"), looks := true }, kinds := [], alts := [], laidByText := true, laidKinds := [.data, .data, .data], laidTests := true, laidLooks := .later }
def FnPicturesCardSaid : Prop := Claim7.holds Tryz.pinned (.plain (OpenSpec.ofChange fnPicturesSpec)) fnPicturesCard

/-- THE TIED CARD OF 'laws.FnExactPicture'. -/
def fnExactPictureCard : Claim7 := { stood := { row := fnExactPictureRow, standIns := [], harness := (true, "11e35f26af284903ab3103816afa1c339e84bae968638056a82bb3d96778e42e"), looks := true }, kinds := [], alts := [], laidByText := true, laidKinds := [.data, .data, .data], laidTests := true, laidLooks := .later }
def FnExactPictureCardSaid : Prop := Claim7.holds Tryz.pinned (.plain (OpenSpec.ofChange fnExactPictureSpec)) fnExactPictureCard

/-- THE TIED CARD OF 'laws.FnExactSameSight'. -/
def fnExactSameSightCard : Claim7 := { stood := { row := fnExactSameSightRow, standIns := [], harness := (true, "11e35f26af284903ab3103816afa1c339e84bae968638056a82bb3d96778e42e"), looks := true }, kinds := [], alts := [], laidByText := true, laidKinds := [.data, .data, .data], laidTests := true, laidLooks := .later }
def FnExactSameSightCardSaid : Prop := Claim7.holds Tryz.pinned (.plain (OpenSpec.ofChange fnExactSameSightSpec)) fnExactSameSightCard

/-- THE SECOND FORM's CARD OF 'laws.FnPictures'. -/
def fnPicturesUptoCard : Claim7 := { stood := { row := fnPicturesUptoRow, standIns := [], harness := (true, "11e35f26af284903ab3103816afa1c339e84bae968638056a82bb3d96778e42e"), looks := true }, kinds := [], alts := [], laidByText := true, laidKinds := [.data, .data, .data], laidTests := true, laidLooks := .later }
def FnPicturesUptoCardSaid : Prop := Claim7.holds Tryz.pinned (.plain (OpenSpec.upto fnPicturesSpec)) fnPicturesUptoCard

/-- THE SECOND FORM's CARD OF 'laws.FnExactPicture'. -/
def fnExactPictureUptoCard : Claim7 := { stood := { row := fnExactPictureUptoRow, standIns := [], harness := (true, "11e35f26af284903ab3103816afa1c339e84bae968638056a82bb3d96778e42e"), looks := true }, kinds := [], alts := [], laidByText := true, laidKinds := [.data, .data, .data], laidTests := true, laidLooks := .later }
def FnExactPictureUptoCardSaid : Prop := Claim7.holds Tryz.pinned (.plain (OpenSpec.upto fnExactPictureSpec)) fnExactPictureUptoCard

/-- THE SECOND FORM's CARD OF 'laws.FnExactSameSight'. -/
def fnExactSameSightUptoCard : Claim7 := { stood := { row := fnExactSameSightUptoRow, standIns := [], harness := (true, "11e35f26af284903ab3103816afa1c339e84bae968638056a82bb3d96778e42e"), looks := true }, kinds := [], alts := [], laidByText := true, laidKinds := [.data, .data, .data], laidTests := true, laidLooks := .later }
def FnExactSameSightUptoCardSaid : Prop := Claim7.holds Tryz.pinned (.plain (OpenSpec.upto fnExactSameSightSpec)) fnExactSameSightUptoCard
end Rows
end Go.Proofs.YtgnpllpinfhccaaGreatDoor
