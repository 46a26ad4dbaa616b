/-
  The contracts of SlabNew, the program's own and its model.
-/
import Derived.Test.YthkhlmbhickdbaaSlabC
import Derived.Test.YthkhlmbhickdbaaMknA
import Derived.Test.YthkhlmbhickdbaaSlabL
import Derived.Test.YthkhlmbhickdbaaSlabS
namespace Go.Proofs.Ythkhlmbhickdbaa
open Go.RowKit

theorem hz_ext {xs ys : List Int} (h : xs.length = ys.length) (hj : ∀ j, j < xs.length → hz xs j = hz ys j) : xs = ys := by
  apply List.ext_getElem h
  intro i h1 h2
  have := hj i h1
  simpa [hz, List.getElem?_eq_getElem h1, List.getElem?_eq_getElem h2] using this
/-- One free block of n words. -/
def newL (n : Nat) : List Int := (List.replicate n 0).set 0 (8 * (n : Int))
theorem newL_len (n : Nat) : (newL n).length = n := by simp [newL]
theorem newL_lay {n : Nat} (hn : 1 ≤ n) : layL (List.replicate n 0) 0 n (8 * (n : Int) + ((0 : Nat) : Int)) = newL n := by
  apply hz_ext
  · simp [layL_len, newL_len]
  · intro j hj
    rw [layL_len, List.length_replicate] at hj
    rw [hz_layL (by simp) hn, newL, hz_set (by simp; omega)]
    by_cases e : j = 0
    · simp [e]
    · rw [if_neg e, if_neg e, if_pos (by omega)]
      simp [hz, hj]

theorem ints_nil (w : World) (ao : Option Addr) : Ints w ao [] := ⟨by simp, .inl rfl⟩
end Go.Proofs.Ythkhlmbhickdbaa
