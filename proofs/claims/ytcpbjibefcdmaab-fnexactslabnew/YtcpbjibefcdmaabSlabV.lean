/-
  The contracts of chapter 2's functions of the program that read alone: KindAt, SizeAt, Room, firstFree, freeAbout, Blocks.
-/
import Derived.Test.YtcpbjibefcdmaabSlabU
namespace Go.Proofs.Ytcpbjibefcdmaab
open Go.RowKit Go.Shelf
attribute [local go_sem] Oper.semAt_some

end Go.Proofs.Ytcpbjibefcdmaab
