/-
  A list that is marked from a number on (the laws' helper markIntS).
-/
import Derived.Test.YtcjeihnhkickiaaHelpM
namespace Go.Proofs.Ytcjeihnhkickiaa
open Go.RowKit
end Go.Proofs.Ytcjeihnhkickiaa
