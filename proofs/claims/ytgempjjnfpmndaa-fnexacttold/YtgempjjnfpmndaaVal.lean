/-
  The contracts of chapter 1's functions, the program's own and their models: what each returns as a plain number or bool, with no memory turned.
-/
import Derived.Test.YtgempjjnfpmndaaRows
import Derived.Test.YtgempjjnfpmndaaPlain
import Derived.WalkKit
import Derived.WalkLawsBesides
import Derived.OpenShut
namespace Go.Proofs.Ytgempjjnfpmndaa
open Go.RowKit
attribute [local go_sem] Plain.and7 Plain.and32

def vRef (k a : Int) : Int := if 4 ≤ k ∧ k ≤ 7 ∧ 0 ≤ a ∧ a ≤ 1999 then 8 * a + k else 0
def vOk (v : Int) : Bool :=
  if v % 8 ≤ 1 then v / 8 == 0 else if v % 8 ≤ 2 then decide (0 ≤ v / 8 ∧ v / 8 ≤ 1) else if v % 8 ≤ 3 then decide (-2147483648 ≤ v / 8 ∧ v / 8 ≤ 2147483647) else decide (0 ≤ v / 8 ∧ v / 8 ≤ 1999)
theorem vOk_01 {v : Int} (h : v % 8 ≤ 1) : vOk v = (v / 8 == 0) := by simp [vOk, h]
theorem vOk_2 {v : Int} (h : v % 8 = 2) : vOk v = decide (0 ≤ v / 8 ∧ v / 8 ≤ 1) := by simp [vOk, h]
theorem vOk_3 {v : Int} (h : v % 8 = 3) : vOk v = decide (-2147483648 ≤ v / 8 ∧ v / 8 ≤ 2147483647) := by simp [vOk, h]
theorem vOk_4 {v : Int} (h : 4 ≤ v % 8) : vOk v = decide (0 ≤ v / 8 ∧ v / 8 ≤ 1999) := by
  simp only [vOk]
  rw [if_neg (by omega), if_neg (by omega), if_neg (by omega)]
theorem vOk_int (n : Int) : vOk (8 * wrap32 n + 3) = true := by
  have hb := Plain.wrap32_bd n
  rw [vOk_3 (by omega)]
  simp; omega
theorem vRef_yes {k a : Int} (h : 4 ≤ k ∧ k ≤ 7 ∧ 0 ≤ a ∧ a ≤ 1999) : vRef k a = 8 * a + k := if_pos h
theorem vRef_no {k a : Int} (h : ¬ (4 ≤ k ∧ k ≤ 7 ∧ 0 ≤ a ∧ a ≤ 1999)) : vRef k a = 0 := if_neg h
theorem vOk_ref {k a : Int} (h : 4 ≤ k ∧ k ≤ 7 ∧ 0 ≤ a ∧ a ≤ 1999) : vOk (8 * a + k) = true := by
  rw [vOk_4 (by omega)]
  simp; omega

















end Go.Proofs.Ytgempjjnfpmndaa
