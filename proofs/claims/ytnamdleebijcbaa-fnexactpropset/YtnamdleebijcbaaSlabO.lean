/-
  The contract of the model of Take.
-/
import Derived.Test.YtnamdleebijcbaaSlabM
namespace Go.Proofs.Ytnamdleebijcbaa
open Go.RowKit

end Go.Proofs.Ytnamdleebijcbaa
