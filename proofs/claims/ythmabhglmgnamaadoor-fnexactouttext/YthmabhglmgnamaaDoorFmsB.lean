/-
  spec.StepText exactly (chapter 15).
-/
import Derived.Test.YthmabhglmgnamaaDoorFmsA
import Derived.Test.YthmabhglmgnamaaDoorVal
namespace Go.Proofs.YthmabhglmgnamaaDoor
open Go.RowKit
set_option linter.unusedSimpArgs false
set_option linter.unusedVariables false
theorem l1InS_yes (a b c : Int) (w : World) (h1 : b ≤ a) (h2 : a ≤ c) : Calls Tryd.prog 40 #[.int .i64 a, .int .i64 b, .int .i64 c] w fun e w' => e = .returned (.bool true) ∧ w' = w := by
  go_enter Tryd.func40, Tryd.ntmps40
  go_wp2
  go_ret
  exact ⟨rfl, rfl⟩
theorem l1InS_no (a b c : Int) (w : World) (h : a < b ∨ c < a) : Calls Tryd.prog 40 #[.int .i64 a, .int .i64 b, .int .i64 c] w fun e w' => e = .returned (.bool false) ∧ w' = w := by
  rcases Int.lt_or_le a b with h1 | h1
  · go_enter Tryd.func40, Tryd.ntmps40
    go_wp2
    go_ret
    exact ⟨rfl, rfl⟩
  · have h2 : c < a := by omega
    have h3 : ¬ a ≤ c := by omega
    clear h h2
    go_enter Tryd.func40, Tryd.ntmps40
    go_wp2
    go_ret
    exact ⟨rfl, rfl⟩
theorem l1InS (a b c : Int) (w : World) : Calls Tryd.prog 40 #[.int .i64 a, .int .i64 b, .int .i64 c] w fun e w' => e = .returned (.bool (decide (b ≤ a ∧ a ≤ c))) ∧ w' = w := by
  by_cases h : b ≤ a ∧ a ≤ c
  · rw [decide_eq_true h]; exact l1InS_yes a b c w h.1 h.2
  · rw [decide_eq_false h]; exact l1InS_no a b c w (by omega)
def namesC : Array Value := #[.string ⟨#[]⟩, .string ⟨#[105, 110, 116]⟩, .string ⟨#[116, 101, 120, 116]⟩, .string ⟨#[117, 110, 100, 101, 102]⟩, .string ⟨#[110, 117, 108, 108]⟩, .string ⟨#[116, 114, 117, 101]⟩, .string ⟨#[102, 97, 108, 115, 101]⟩, .string ⟨#[108, 111, 97, 100]⟩, .string ⟨#[115, 116, 111, 114, 101]⟩, .string ⟨#[103, 101, 116]⟩, .string ⟨#[112, 117, 116]⟩, .string ⟨#[111, 98, 106]⟩, .string ⟨#[99, 97, 108, 108]⟩, .string ⟨#[114, 101, 116, 117, 114, 110]⟩, .string ⟨#[97, 100, 100]⟩, .string ⟨#[115, 117, 98]⟩, .string ⟨#[109, 117, 108]⟩, .string ⟨#[108, 101, 115, 115]⟩, .string ⟨#[115, 97, 109, 101]⟩, .string ⟨#[110, 111, 116]⟩, .string ⟨#[106, 117, 109, 112]⟩, .string ⟨#[101, 108, 115, 101]⟩, .string ⟨#[112, 114, 105, 110, 116]⟩, .string ⟨#[112, 111, 112]⟩, .string ⟨#[102, 117, 110]⟩, .string ⟨#[102, 105, 101, 108, 100]⟩]
set_option maxHeartbeats 4000000 in
set_option maxRecDepth 100000 in
theorem l15Names_ok (w : World) : Calls Tryd.prog 43 #[] w fun e w' => ∃ g, e = .returned (.slice (some ⟨g, 0, none⟩) 26 26) ∧ Cells w' g 9 namesC ∧ Kept w w' := by
  go_enter Tryd.func43, Tryd.ntmps43
  go_wp2_with fail
  go_ret
  exact ⟨_, rfl, Cells.new w 9 namesC, Kept.alloc (Below.refl _ _) _⟩
end Go.Proofs.YthmabhglmgnamaaDoor
