/-
  The contract of chapter 5's model ObjNew.
-/
import Derived.Test.YtnamdleebijcbaaObjF
import Derived.Test.YtnamdleebijcbaaSlabQ
namespace Go.Proofs.Ytnamdleebijcbaa
open Go.RowKit

theorem objNewC_len (zs : List Int) (p : Int) : (objNewC zs p).1.length = zs.length ∨ (objNewC zs p).1.length = 0 := by
  unfold objNewC
  split
  · exact .inl (objC_len zs p)
  · exact zeroL_len zs
end Go.Proofs.Ytnamdleebijcbaa
