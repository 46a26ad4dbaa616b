/-
  The contracts of chapter 11's models on bytes: l11Letter, l11Digit.
-/
import Derived.Test.YtlinbkgeahgkjaaGreatDoorSlabI
namespace Go.Proofs.YtlinbkgeahgkjaaGreatDoor
open Go.RowKit
set_option linter.unusedSimpArgs false

def letB (b : Int) : Bool := decide (97 ≤ b ∧ b ≤ 122) || decide (65 ≤ b ∧ b ≤ 90)
def digB (b : Int) : Bool := decide (48 ≤ b ∧ b ≤ 57)
set_option maxHeartbeats 4000000 in
theorem l11Letter_ok (b : Int) (w : World) : Calls Tryz.prog 85 #[.int .u8 b] w fun e w' => e = .returned (.bool (letB b)) ∧ w = w' := by
  have HB : Hid (letB b = (decide (97 ≤ b) && decide (b ≤ 122) || decide (65 ≤ b) && decide (b ≤ 90))) := by
    rw [Hid, letB]
    simp only [Bool.decide_and]
  by_cases h1 : 97 ≤ b <;> by_cases h2 : b ≤ 122 <;> by_cases h3 : 65 ≤ b <;> by_cases h4 : b ≤ 90
  all_goals (
    have HR : Hid _ := HB.out
    simp only [h1, h2, h3, h4, decide_true, decide_false, Bool.and_true, Bool.and_false, Bool.or_true, Bool.or_false, Bool.true_and, Bool.false_and, Bool.true_or, Bool.false_or] at HR
    go_enter Tryz.func85, Tryz.ntmps85
    go_wp2
    go_ret
    exact ⟨by rw [HR.out]; rfl, rfl⟩)
set_option maxHeartbeats 4000000 in
theorem l11Digit_ok (b : Int) (w : World) : Calls Tryz.prog 87 #[.int .u8 b] w fun e w' => e = .returned (.bool (digB b)) ∧ w = w' := by
  have HB : Hid (digB b = (decide (48 ≤ b) && decide (b ≤ 57))) := by
    rw [Hid, digB]
    simp only [Bool.decide_and]
  by_cases h1 : 48 ≤ b <;> by_cases h2 : b ≤ 57
  all_goals (
    have HR : Hid _ := HB.out
    simp only [h1, h2, decide_true, decide_false, Bool.and_true, Bool.and_false, Bool.true_and, Bool.false_and] at HR
    go_enter Tryz.func87, Tryz.ntmps87
    go_wp2
    go_ret
    exact ⟨by rw [HR.out]; rfl, rfl⟩)
end Go.Proofs.YtlinbkgeahgkjaaGreatDoor
