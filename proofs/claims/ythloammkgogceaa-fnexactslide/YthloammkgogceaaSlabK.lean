/-
  The contract of impl.Take.
-/
import Derived.Test.YthloammkgogceaaSlabC
namespace Go.Proofs.Ythloammkgogceaa
open Go.RowKit
attribute [local go_sem] Plain.and7

/-- v is a slab's words of the call's own. -/
def OwnR (W : World) (base : Nat) (v : Value) (zs : List Int) : Prop :=
  (v = .slice none 0 0 ∧ zs = []) ∨ ∃ g cap, v = .slice (some ⟨g, 0, none⟩) zs.length cap ∧ base ≤ g ∧ zs.length ≤ cap ∧ Row W g zs
/-- What Take makes of the words, of a free block b that is large enough. -/
def takeL (zs : List Int) (b : Bk) (kind n : Nat) : List Int :=
  if n + 2 ≤ b.size then layL (zs.set (b.at' + n) (8 * ((b.size : Int) - (n : Int)))) b.at' n (8 * (n : Int) + (kind : Int)) else layL zs b.at' b.size (8 * (b.size : Int) + (kind : Int))

end Go.Proofs.Ythloammkgogceaa
