/-
  What the laws do with units: how great (chapter 15).
-/
import Derived.Test.YthmabhglmgnamaaDoorUntP
namespace Go.Proofs.YthmabhglmgnamaaDoor
open Go.ChangeShapes Go.WideShapes Go.ChangeAt Go.RowKit
set_option linter.unusedSimpArgs false
set_option linter.unusedVariables false
set_option maxHeartbeats 8000000 in
set_option maxRecDepth 100000 in
theorem szStepS_ok (w : World) (ao : Option Addr) (cap : Nat) (ss : List Stp) (l : Int) (hm : ss.length ≤ maxLen) (h0 : 0 ≤ l) (h1 : l ≤ 1048576) :
    Calls Tryd.prog 21 #[.slice ao ss.length cap, .int .i64 l] w fun e w' => e = .returned (.int .i64 (leftT l ss.length)) ∧ w' = w := by
  have hml' : ss.length ≤ 9223372036854775807 := by unfold maxLen at hm; omega
  by_cases hneg : l - (ss.length : Int) < 0
  · have HL : Hid (leftT l ss.length = -1) := by rw [Hid, leftT, if_neg (by omega)]
    go_enter Tryd.func21, Tryd.ntmps21
    go_wp2_with fail
    go_ret
    exact ⟨by rw [HL.out]; rfl, rfl⟩
  · have HL : Hid (leftT l ss.length = l - (ss.length : Int)) := by rw [Hid, leftT, if_pos (by omega)]
    go_enter Tryd.func21, Tryd.ntmps21
    go_wp2_with fail
    go_ret
    exact ⟨by rw [HL.out]; rfl, rfl⟩
set_option maxHeartbeats 8000000 in
set_option maxRecDepth 100000 in
theorem szCode_ok (w : World) (x y : Int) (ao : Option Addr) (cap : Nat) (ss : List Stp) (l : Int) (hm : ss.length ≤ maxLen) (h0 : 0 ≤ l) (h1 : l ≤ 1048576) :
    Calls Tryd.prog 6 #[.agg #[.int .i64 x, .int .i64 y, .slice ao ss.length cap], .int .i64 l] w fun e w' => e = .returned (.int .i64 (leftT l ss.length)) ∧ Kept w w' := by
  have k0 : Kept w (w.alloc (.cells #[.int .i64 x, .int .i64 y, .slice ao ss.length cap] 24)) := Kept.alloc (Below.refl _ _) _
  have hC := szStepS_ok (w.alloc (.cells #[.int .i64 x, .int .i64 y, .slice ao ss.length cap] 24)) ao cap ss l hm h0 h1
  by_cases hb : ((ss.length : Nat) : Int) ≤ l
  · rw [show leftT l ss.length = l - ((ss.length : Nat) : Int) from if_pos hb] at hC ⊢
    obtain ⟨r, hr⟩ : ∃ r, l - ((ss.length : Nat) : Int) = r := ⟨_, rfl⟩
    rw [hr] at hC ⊢
    have hd : decide (r < 0) = false := decide_eq_false (by omega)
    clear hr hb h0 h1 hm
    go_enter Tryd.func6, Tryd.ntmps6
    go_wp2_with (go_at_call 21; refine hC.mono ?_; rintro e w1 ⟨rfl, rfl⟩)
    go_ret
    exact ⟨rfl, k0⟩
  · rw [show leftT l ss.length = -1 from if_neg hb] at hC ⊢
    clear hb h0 h1 hm
    go_enter Tryd.func6, Tryd.ntmps6
    go_wp2_with (go_at_call 21; refine hC.mono ?_; rintro e w1 ⟨rfl, rfl⟩)
    go_ret
    exact ⟨rfl, k0⟩
end Go.Proofs.YthmabhglmgnamaaDoor
