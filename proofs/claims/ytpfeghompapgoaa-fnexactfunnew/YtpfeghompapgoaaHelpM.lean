/-
  HelpO, and SlabW.
-/
import Derived.Test.YtpfeghompapgoaaSlabW
import Derived.Test.YtpfeghompapgoaaHelpO
namespace Go.Proofs.Ytpfeghompapgoaa
end Go.Proofs.Ytpfeghompapgoaa
