/-
  The contract of the model of Take.
-/
import Derived.Test.YtpfeghompapgoaaSlabM
namespace Go.Proofs.Ytpfeghompapgoaa
open Go.RowKit

end Go.Proofs.Ytpfeghompapgoaa
