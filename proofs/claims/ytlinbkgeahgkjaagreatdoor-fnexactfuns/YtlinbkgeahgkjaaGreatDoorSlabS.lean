/-
  The contracts of chapter 2's models that read alone: l2Size, l2Kind, SlabOk, l2Is, KindAt, SizeAt.
-/
import Derived.Test.YtlinbkgeahgkjaaGreatDoorSlabI
namespace Go.Proofs.YtlinbkgeahgkjaaGreatDoor
open Go.RowKit
attribute [local go_sem] Plain.and7

theorem l1In_yes (a b c : Int) (w : World) (h1 : b ≤ a) (h2 : a ≤ c) : Calls Tryz.prog 37 #[.int .i64 a, .int .i64 b, .int .i64 c] w fun e w' => e = .returned (.bool true) ∧ w = w' := by
  go_enter Tryz.func37, Tryz.ntmps37
  go_wp2
  go_ret
  exact ⟨rfl, rfl⟩
theorem l1In_no (a b c : Int) (w : World) (h : a < b ∨ c < a) : Calls Tryz.prog 37 #[.int .i64 a, .int .i64 b, .int .i64 c] w fun e w' => e = .returned (.bool false) ∧ w = w' := by
  by_cases hb : b ≤ a
  · have hc : c < a := by omega
    clear h
    go_enter Tryz.func37, Tryz.ntmps37
    go_wp2
    go_ret
    exact ⟨by simp; omega, rfl⟩
  · have hb' : a < b := by omega
    clear h hb
    go_enter Tryz.func37, Tryz.ntmps37
    go_wp2
    go_ret
    exact ⟨rfl, rfl⟩


end Go.Proofs.YtlinbkgeahgkjaaGreatDoor
