/-
  Take of the program and of its model together: they answer the same, each a slab of its own.
-/
import Derived.Test.YthkhlmbhickdbaaSlabO
import Derived.Test.YthkhlmbhickdbaaOwnQ
namespace Go.Proofs.Ythkhlmbhickdbaa
open Go.RowKit

end Go.Proofs.Ythkhlmbhickdbaa
