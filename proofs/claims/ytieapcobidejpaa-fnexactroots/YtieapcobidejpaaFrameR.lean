/-
  FrameP, and that the program is laid out.
-/
import Derived.Test.YtieapcobidejpaaFrameP
namespace Go.Proofs.Ytieapcobidejpaa
theorem laid : laidOutB Try.prog = true := by kernel_rfl
end Go.Proofs.Ytieapcobidejpaa
