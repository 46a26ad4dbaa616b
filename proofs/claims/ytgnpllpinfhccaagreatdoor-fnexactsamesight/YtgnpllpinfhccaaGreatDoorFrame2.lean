/-
  How an argument that is a list of integers, and one that is a text, is read.
-/
import Derived.Test.YtgnpllpinfhccaaGreatDoorFrame
import Derived.ChangeMaps5
namespace Go.Proofs.YtgnpllpinfhccaaGreatDoor
open Go.ChangeShapes Go.WideShapes Go.ChangeAt Go.RowKit

set_option maxRecDepth 100000 in
theorem open_list {H : Type} {enc : TypeId × Value → H} {W : World} {base : Nat} {v : Value} {d : DataW H} {p : List MemPlace} (hv : Value.okWide Tryz.prog W .any base 24 v) (h : DataW.Trod enc Tryz.prog W 0 (fun _ => true) true 24 v d p) :
    ∃ (ao : Option Addr) (cap : Nat) (zs : List Int), v = .slice ao zs.length cap ∧ zs.length ≤ cap ∧ cap ≤ maxLen ∧ Ints W ao zs := by
  obtain ⟨a, len, c, rfl⟩ := okWide_slice Tryz.underlying24 hv
  obtain ⟨fuel, hf⟩ := h
  exact Ints.of (by simpa [Value.cells] using hf)
end Go.Proofs.YtgnpllpinfhccaaGreatDoor
