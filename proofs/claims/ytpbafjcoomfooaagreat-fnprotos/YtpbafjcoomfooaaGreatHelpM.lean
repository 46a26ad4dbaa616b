/-
  HelpO, and SlabW.
-/
import Derived.Test.YtpbafjcoomfooaaGreatSlabW
import Derived.Test.YtpbafjcoomfooaaGreatHelpO
namespace Go.Proofs.YtpbafjcoomfooaaGreat
end Go.Proofs.YtpbafjcoomfooaaGreat
