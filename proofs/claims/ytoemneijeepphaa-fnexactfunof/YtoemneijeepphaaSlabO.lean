/-
  The contract of the model of Take.
-/
import Derived.Test.YtoemneijeepphaaSlabM
namespace Go.Proofs.Ytoemneijeepphaa
open Go.RowKit

end Go.Proofs.Ytoemneijeepphaa
