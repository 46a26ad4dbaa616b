/-
  The contracts of chapter 1's functions, the program's own and their models: what each returns as a plain number or bool, with no memory turned.
-/
import Derived.Test.YthmabhglmgnamaaDoorRows
import Derived.Test.YthmabhglmgnamaaDoorPlain
import Derived.WalkKit
import Derived.WalkLawsBesides
import Derived.OpenShut
namespace Go.Proofs.YthmabhglmgnamaaDoor
open Go.RowKit
attribute [local go_sem] Plain.and7 Plain.and32

def vRef (k a : Int) : Int := if 4 ≤ k ∧ k ≤ 7 ∧ 0 ≤ a ∧ a ≤ 1999 then 8 * a + k else 0
def vOk (v : Int) : Bool :=
  if v % 8 ≤ 1 then v / 8 == 0 else if v % 8 ≤ 2 then decide (0 ≤ v / 8 ∧ v / 8 ≤ 1) else if v % 8 ≤ 3 then decide (-2147483648 ≤ v / 8 ∧ v / 8 ≤ 2147483647) else decide (0 ≤ v / 8 ∧ v / 8 ≤ 1999)
theorem vOk_01 {v : Int} (h : v % 8 ≤ 1) : vOk v = (v / 8 == 0) := by simp [vOk, h]
theorem vOk_2 {v : Int} (h : v % 8 = 2) : vOk v = decide (0 ≤ v / 8 ∧ v / 8 ≤ 1) := by simp [vOk, h]
theorem vOk_3 {v : Int} (h : v % 8 = 3) : vOk v = decide (-2147483648 ≤ v / 8 ∧ v / 8 ≤ 2147483647) := by simp [vOk, h]
theorem vOk_4 {v : Int} (h : 4 ≤ v % 8) : vOk v = decide (0 ≤ v / 8 ∧ v / 8 ≤ 1999) := by
  simp only [vOk]
  rw [if_neg (by omega), if_neg (by omega), if_neg (by omega)]
theorem vOk_int (n : Int) : vOk (8 * wrap32 n + 3) = true := by
  have hb := Plain.wrap32_bd n
  rw [vOk_3 (by omega)]
  simp; omega
theorem vRef_yes {k a : Int} (h : 4 ≤ k ∧ k ≤ 7 ∧ 0 ≤ a ∧ a ≤ 1999) : vRef k a = 8 * a + k := if_pos h
theorem vRef_no {k a : Int} (h : ¬ (4 ≤ k ∧ k ≤ 7 ∧ 0 ≤ a ∧ a ≤ 1999)) : vRef k a = 0 := if_neg h
theorem vOk_ref {k a : Int} (h : 4 ≤ k ∧ k ≤ 7 ∧ 0 ≤ a ∧ a ≤ 1999) : vOk (8 * a + k) = true := by
  rw [vOk_4 (by omega)]
  simp; omega


theorem impl_value_kind_ok (v : Int) (w : World) :
    Calls Tryd.prog 60 #[.int .i64 v] w fun e w' => e = .returned (.int .i64 (v % 8)) ∧ w = w' := by
  go_enter Tryd.func60, Tryd.ntmps60
  go_wp2
  go_ret
  exact ⟨rfl, rfl⟩

theorem impl_value_num_ok (v : Int) (w : World) (h0 : -9223372036854775808 ≤ v) (h1 : v ≤ 9223372036854775807) :
    Calls Tryd.prog 59 #[.int .i64 v] w fun e w' => e = .returned (.int .i64 (v / 8)) ∧ w = w' := by
  have e := Plain.num_is' v
  go_enter Tryd.func59, Tryd.ntmps59
  go_wp2
  go_ret
  exact ⟨rfl, rfl⟩














end Go.Proofs.YthmabhglmgnamaaDoor
