/-
  HelpO, and SlabW.
-/
import Derived.Test.YthkhlmbhickdbaaSlabW
import Derived.Test.YthkhlmbhickdbaaHelpO
namespace Go.Proofs.Ythkhlmbhickdbaa
end Go.Proofs.Ythkhlmbhickdbaa
