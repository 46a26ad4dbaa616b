/-
  The bytes of a text, as numbers.
-/
import Derived.RowKit
namespace Go.Proofs.YtpbafjcoomfooaaGreat
open Go.RowKit

def byteN (t : ByteArray) (i : Nat) : Int := ((t.data.getD i 0).toNat : Int)
theorem byteN_get (t : ByteArray) (k : Nat) (h : k < t.size) : (t[k].toNat : Int) = byteN t k := by
  have h' : k < t.data.size := h
  unfold byteN
  rw [Array.getD_eq_getD_getElem?, Array.getElem?_eq_getElem h']
  rfl
theorem byteN_in (t : ByteArray) (k : Nat) : 0 ≤ byteN t k ∧ byteN t k < 256 := by
  unfold byteN
  have := (t.data.getD k 0).toNat_lt
  omega
end Go.Proofs.YtpbafjcoomfooaaGreat
