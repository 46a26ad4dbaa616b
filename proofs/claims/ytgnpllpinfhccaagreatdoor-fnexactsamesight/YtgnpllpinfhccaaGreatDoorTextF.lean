/-
  wordsAre.
-/
import Derived.Test.YtgnpllpinfhccaaGreatDoorTextA
namespace Go.Proofs.YtgnpllpinfhccaaGreatDoor
open Go.RowKit

/-- The words are these bytes. -/
def byteN (t : ByteArray) (i : Nat) : Int := ((t.data.getD i 0).toNat : Int)
def sameAs (g : Nat → Int) (t : ByteArray) (k : Nat) : Bool := (List.range k).all (fun i => decide (g i = byteN t i))
theorem byteN_get (t : ByteArray) (k : Nat) (h : k < t.size) : (t[k].toNat : Int) = byteN t k := by
  have h' : k < t.data.size := h
  unfold byteN
  rw [Array.getD_eq_getD_getElem?, Array.getElem?_eq_getElem h']
  rfl
theorem byteN_in (t : ByteArray) (k : Nat) : 0 ≤ byteN t k ∧ byteN t k < 256 := by
  unfold byteN
  have := (t.data.getD k 0).toNat_lt
  omega
theorem sameAs_succ (g : Nat → Int) (t : ByteArray) (k : Nat) : sameAs g t (k + 1) = (sameAs g t k && decide (g k = byteN t k)) := by
  unfold sameAs
  rw [List.range_succ, List.all_append]
  simp
theorem sameAs_not {g : Nat → Int} {t : ByteArray} {k n : Nat} (h : k < n) (hk : g k ≠ byteN t k) : sameAs g t n = false := by
  cases e : sameAs g t n with
  | false => rfl
  | true =>
    have := List.all_eq_true.1 e k (List.mem_range.2 h)
    simp at this
    exact absurd this hk

end Go.Proofs.YtgnpllpinfhccaaGreatDoor
