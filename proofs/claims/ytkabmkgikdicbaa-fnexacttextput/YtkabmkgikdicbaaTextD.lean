/-
  The contract of chapter 4's model TextFind.
-/
import Derived.Test.YtkabmkgikdicbaaTextC
namespace Go.Proofs.Ytkabmkgikdicbaa
open Go.RowKit

end Go.Proofs.Ytkabmkgikdicbaa
