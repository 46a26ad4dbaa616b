/-
  The contracts of the marks of the exact laws: what is laid into a list of integers or a slab, and whether it is held there.
-/
import Derived.Test.YtgnpllpinfhccaaGreatDoorZSlabW
import Derived.Test.YtgnpllpinfhccaaGreatDoorZHelpL
namespace Go.Proofs.YtgnpllpinfhccaaGreatDoor
open Go.RowKit

theorem grown_trans {a b c : World} {row : Option Nat} (h : a.grownBy b row) (k : b.grownBy c row) : a.grownBy c row :=
  ⟨k.os.trans h.os, k.tape.trans h.tape, k.output.trans h.output, Nat.le_trans h.size k.size, fun j hj hr => (k.block j (Nat.lt_of_lt_of_le hj h.size) hr).trans (h.block j hj hr)⟩
theorem grown_set {a b : World} {g k : Nat} (h : a.grownBy b (some g)) (v : Value) : a.grownBy (b.setCell ⟨g, k, none⟩ v) (some g) :=
  grown_trans h ⟨rfl, rfl, rfl, by simp [World.setCell], fun j _ hr => Below.heap_setCell _ _ _ _ (fun e => hr (by rw [e]))⟩
theorem Kept.grownRow {w a b : World} {row : Option Nat} (h : Kept w a) (hg : a.grownBy b row) (hr : ∀ k, row = some k → w.heap.size ≤ k) : Kept w b := Below.grown h hg h.size hr
theorem Row.grown {W W' : World} {g : Nat} {zs : List Int} {row : Option Nat} (h : Row W g zs) (hg : W.grownBy W' row) (hne : some g ≠ row) : Row W' g zs := h.block (hg.block g h.lt hne)
theorem Cells.grown {W W' : World} {B : Nat} {t : TypeId} {cs : Array Value} {row : Option Nat} (h : Cells W B t cs) (hg : W.grownBy W' row) (hne : some B ≠ row) : Cells W' B t cs := (hg.block B h.lt hne).trans h
theorem OwnL.kept {W W' : World} {base : Nat} {v : Value} {zs : List Int} {row : Option Nat} (h : OwnL W base v zs) (hg : W.grownBy W' row) (hne : ∀ k, row = some k → ∀ j, v.ownBlock = some j → j ≠ k) : OwnL W' base v zs := by
  refine ⟨h.1, h.2.kept hg ?_⟩
  cases hv : v.ownBlock with
  | none => exact .inl rfl
  | some j => exact .inr (fun e => hne j e.symm j hv rfl)

def marks (n : Nat) : List Int := (List.range n).map (fun i : Nat => (i : Int) + 1)
def mixed (zs : List Int) (k : Nat) : List Int := marks k ++ zs.drop k
end Go.Proofs.YtgnpllpinfhccaaGreatDoor
