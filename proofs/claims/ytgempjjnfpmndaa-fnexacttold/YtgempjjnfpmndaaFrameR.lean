/-
  FrameP, and that the program is laid out.
-/
import Derived.Test.YtgempjjnfpmndaaFrameP
namespace Go.Proofs.Ytgempjjnfpmndaa
theorem laid : laidOutB Try.prog = true := by kernel_rfl
end Go.Proofs.Ytgempjjnfpmndaa
