/-
  The contract of the model of Take.
-/
import Derived.Test.YthkhlmbhickdbaaSlabM
namespace Go.Proofs.Ythkhlmbhickdbaa
open Go.RowKit

end Go.Proofs.Ythkhlmbhickdbaa
