/-
  The contract of impl.ShapeOk.
-/
import Derived.Test.YtpbafjcoomfooaaGreatShapeE
import Derived.Test.YtpbafjcoomfooaaGreatShapeF
namespace Go.Proofs.YtpbafjcoomfooaaGreat
open Go.RowKit
attribute [local go_sem] Plain.and7

/-- The block at a is as its kind asks. -/
def shapeR (zs : List Int) (a : Int) : Bool := match atB zs a with | some b => blkR zs b.1.at' b.1.size b.1.kind | none => false

end Go.Proofs.YtpbafjcoomfooaaGreat
