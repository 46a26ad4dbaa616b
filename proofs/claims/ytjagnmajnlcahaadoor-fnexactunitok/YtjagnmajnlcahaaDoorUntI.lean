/-
  The contract of spec.l1In.
-/
import Derived.Test.YtjagnmajnlcahaaDoorSlabI
namespace Go.Proofs.YtjagnmajnlcahaaDoor
open Go.RowKit
theorem l1InS_yes (a b c : Int) (w : World) (h1 : b ≤ a) (h2 : a ≤ c) : Calls Tryd.prog 15 #[.int .i64 a, .int .i64 b, .int .i64 c] w fun e w' => e = .returned (.bool true) ∧ w' = w := by
  go_enter Tryd.func15, Tryd.ntmps15
  go_wp2
  go_ret
  exact ⟨rfl, rfl⟩
theorem l1InS_no (a b c : Int) (w : World) (h : a < b ∨ c < a) : Calls Tryd.prog 15 #[.int .i64 a, .int .i64 b, .int .i64 c] w fun e w' => e = .returned (.bool false) ∧ w' = w := by
  rcases Int.lt_or_le a b with h1 | h1
  · go_enter Tryd.func15, Tryd.ntmps15
    go_wp2
    go_ret
    exact ⟨rfl, rfl⟩
  · have h2 : c < a := by omega
    have h3 : ¬ a ≤ c := by omega
    clear h h2
    go_enter Tryd.func15, Tryd.ntmps15
    go_wp2
    go_ret
    exact ⟨rfl, rfl⟩
theorem l1InS (a b c : Int) (w : World) : Calls Tryd.prog 15 #[.int .i64 a, .int .i64 b, .int .i64 c] w fun e w' => e = .returned (.bool (decide (b ≤ a ∧ a ≤ c))) ∧ w' = w := by
  by_cases h : b ≤ a ∧ a ≤ c
  · rw [decide_eq_true h]; exact l1InS_yes a b c w h.1 h.2
  · rw [decide_eq_false h]; exact l1InS_no a b c w (by omega)
end Go.Proofs.YtjagnmajnlcahaaDoor
