/-
  The contract of chapter 7's model l7Digits.
-/
import Derived.Test.YtgempjjnfpmndaaGreatDoorSlabI
import Derived.Laws.Concat
import Derived.Laws.BytesArg
namespace Go.Proofs.YtgempjjnfpmndaaGreatDoor
open Go.RowKit
attribute [local go_sem] Plain.and7

theorem strs_app (xs ys : List Int) : strOfNums xs ++ strOfNums ys = strOfNums (xs ++ ys) := by
  unfold strOfNums
  rw [ByteArray.mk_append_mk]
  simp
/-- The digits of a number above 0. -/
def digN (m : Nat) : List Int := if m = 0 then [] else digN (m / 10) ++ [48 + ((m % 10 : Nat) : Int)]
  termination_by m
  decreasing_by omega
theorem digN_zero : digN 0 = [] := by rw [digN]; simp
theorem digN_pos {m : Nat} (h : m ≠ 0) : digN m = digN (m / 10) ++ [48 + ((m % 10 : Nat) : Int)] := by
  rw [digN, if_neg h]
theorem digN_len : ∀ (k m : Nat), m < 10 ^ k → (digN m).length ≤ k
  | 0, m, h => by
    have : m = 0 := by simpa using h
    subst this
    rw [digN_zero]
    simp
  | k + 1, m, h => by
    by_cases h0 : m = 0
    · subst h0; rw [digN_zero]; simp
    · rw [digN_pos h0, List.length_append]
      have : m / 10 < 10 ^ k := by rw [Nat.pow_succ] at h; omega
      have := digN_len k (m / 10) this
      simpa using this
def digI (n : Int) : List Int := if n = 0 then [48] else (if n < 0 then [45] else []) ++ digN n.natAbs
theorem digI_len {n : Int} (h : -9223372036854775808 ≤ n ∧ n ≤ 9223372036854775807) : (digI n).length ≤ 21 := by
  have := digN_len 20 n.natAbs (by omega)
  unfold digI
  split
  · simp
  · split <;> simp <;> omega
end Go.Proofs.YtgempjjnfpmndaaGreatDoor
