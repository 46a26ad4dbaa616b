/-
  Take of the program and of its model together: they answer the same, each a slab of its own.
-/
import Derived.Test.YtpfeghompapgoaaSlabO
import Derived.Test.YtpfeghompapgoaaOwnQ
namespace Go.Proofs.Ytpfeghompapgoaa
open Go.RowKit

end Go.Proofs.Ytpfeghompapgoaa
