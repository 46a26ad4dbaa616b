/-
  What every law owes, where the argument is a tree of nodes and no slab is read.
-/
import Derived.Test.YtejpjbfmjmfnmaaGreatDoorFrameN
namespace Go.Proofs.YtejpjbfmjmfnmaaGreatDoor
open Go.RowKit
theorem laid : laidOutB Tryz.prog = true := by kernel_rfl
end Go.Proofs.YtejpjbfmjmfnmaaGreatDoor
