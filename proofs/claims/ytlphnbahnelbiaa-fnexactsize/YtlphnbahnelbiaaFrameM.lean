/-
  What every law owes, where the argument is a tree of nodes and no slab is read.
-/
import Derived.Test.YtlphnbahnelbiaaFrameN
namespace Go.Proofs.Ytlphnbahnelbiaa
open Go.RowKit
theorem laid : laidOutB Try.prog = true := by kernel_rfl
end Go.Proofs.Ytlphnbahnelbiaa
