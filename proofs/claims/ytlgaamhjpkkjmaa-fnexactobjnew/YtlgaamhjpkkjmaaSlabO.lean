/-
  The contract of the model of Take.
-/
import Derived.Test.YtlgaamhjpkkjmaaSlabM
namespace Go.Proofs.Ytlgaamhjpkkjmaa
open Go.RowKit

end Go.Proofs.Ytlgaamhjpkkjmaa
