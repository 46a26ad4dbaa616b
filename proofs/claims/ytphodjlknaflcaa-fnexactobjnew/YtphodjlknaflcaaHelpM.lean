/-
  HelpO, and SlabW.
-/
import Derived.Test.YtphodjlknaflcaaSlabW
import Derived.Test.YtphodjlknaflcaaHelpO
namespace Go.Proofs.Ytphodjlknaflcaa
end Go.Proofs.Ytphodjlknaflcaa
