/-
  The contract of chapter 8's model l8Step.
  The contract of chapter 8's model MarkStep.
-/
import Derived.Test.YtpljjeknphnnpaaGreatGrpSQ
import Derived.Test.YtpljjeknphnnpaaGreatGrpSR
namespace Go.Proofs.YtpljjeknphnnpaaGreat
open Go.RowKit
attribute [local go_sem] Plain.and7

/-- The phase behind a step. -/
def stepPh (l : List Int) : Int := if l = [] then 2 else 1
end Go.Proofs.YtpljjeknphnnpaaGreat
namespace Go.Proofs.YtpljjeknphnnpaaGreat
open Go.RowKit
attribute [local go_sem] Plain.and7

/-- What MarkStep leaves: the phase, the grey and the black ones. -/
def stepC (zs : List Int) (ph : Int) (gs bs : List Int) (at' n : Int) : Int × List Int × List Int := if markR zs ph gs bs at' = true ∧ ph = 1 then (stepPh (stepL zs n.toNat gs bs).1, stepL zs n.toNat gs bs) else (ph, gs, bs)
end Go.Proofs.YtpljjeknphnnpaaGreat
