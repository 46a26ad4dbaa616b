/-
  The contract of the model of Take.
-/
import Derived.Test.YtphodjlknaflcaaSlabM
namespace Go.Proofs.Ytphodjlknaflcaa
open Go.RowKit

end Go.Proofs.Ytphodjlknaflcaa
