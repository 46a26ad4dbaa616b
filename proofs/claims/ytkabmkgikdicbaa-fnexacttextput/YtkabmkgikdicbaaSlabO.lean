/-
  The contract of the model of Take.
-/
import Derived.Test.YtkabmkgikdicbaaSlabM
namespace Go.Proofs.Ytkabmkgikdicbaa
open Go.RowKit

end Go.Proofs.Ytkabmkgikdicbaa
