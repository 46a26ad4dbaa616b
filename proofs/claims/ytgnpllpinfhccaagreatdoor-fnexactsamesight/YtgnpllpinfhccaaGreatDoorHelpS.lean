/-
  The laws' helper szSlab, from a number on.
-/
import Derived.Test.YtgnpllpinfhccaaGreatDoorHelpL
namespace Go.Proofs.YtgnpllpinfhccaaGreatDoor
open Go.RowKit
set_option maxHeartbeats 1000000 in
theorem szSlab_from (w : World) (ao : Option Addr) (cap len : Nat) (left : Int) (h0 : 0 ≤ left - (len : Int)) (h1 : left ≤ 1048576) :
    Calls Tryz.prog 18 #[.agg #[.slice ao len cap], .int .i64 left] w fun e w' => e = .returned (.int .i64 (left - (len : Int))) ∧ Kept w w' := by
  go_enter Tryz.func18, Tryz.ntmps18
  go_wp2_with go_in
  go_ret
  exact ⟨rfl, Kept.alloc (Below.refl _ _) _⟩
set_option maxHeartbeats 1000000 in
theorem szSlab_over (w : World) (ao : Option Addr) (cap len : Nat) (left : Int) (h0 : left - (len : Int) < 0) (h1 : 0 ≤ left) (h2 : left ≤ 1048576) (hm : len ≤ 9223372036854775807) :
    Calls Tryz.prog 18 #[.agg #[.slice ao len cap], .int .i64 left] w fun e w' => e = .returned (.int .i64 (-1)) ∧ Kept w w' := by
  go_enter Tryz.func18, Tryz.ntmps18
  go_wp2_with go_in
  go_ret
  exact ⟨rfl, Kept.alloc (Below.refl _ _) _⟩
end Go.Proofs.YtgnpllpinfhccaaGreatDoor
