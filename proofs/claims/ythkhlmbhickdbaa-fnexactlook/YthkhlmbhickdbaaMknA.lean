/-
  A slab of no words is marked (the laws' helper markSlab).
-/
import Derived.Test.YthkhlmbhickdbaaHelpM
namespace Go.Proofs.Ythkhlmbhickdbaa
open Go.RowKit
theorem markSlab_nil (w : World) (ao : Option Addr) (cap : Nat) :
    Calls Try.prog 14 #[.agg #[.slice ao 0 cap], .int .i64 1] w fun e w' => e = .returned (.int .i64 1) ∧ Kept w w' := by
  go_enter Try.func14, Try.ntmps14
  go_wp2_with (go_at_call 32; refine (markNil_ok _ ao cap).mono ?_; rintro e w1 ⟨rfl, rfl⟩)
  go_ret
  exact ⟨rfl, Kept.alloc (Below.refl _ _) _⟩
end Go.Proofs.Ythkhlmbhickdbaa
