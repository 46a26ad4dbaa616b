/-
  A slab of no words is marked (the laws' helper markSlab).
-/
import Derived.Test.YtpfeghompapgoaaHelpM
namespace Go.Proofs.Ytpfeghompapgoaa
open Go.RowKit
theorem markSlab_nil (w : World) (ao : Option Addr) (cap : Nat) :
    Calls Try.prog 10 #[.agg #[.slice ao 0 cap], .int .i64 1] w fun e w' => e = .returned (.int .i64 1) ∧ Kept w w' := by
  go_enter Try.func10, Try.ntmps10
  go_wp2_with (go_at_call 28; refine (markNil_ok _ ao cap).mono ?_; rintro e w1 ⟨rfl, rfl⟩)
  go_ret
  exact ⟨rfl, Kept.alloc (Below.refl _ _) _⟩
end Go.Proofs.Ytpfeghompapgoaa
