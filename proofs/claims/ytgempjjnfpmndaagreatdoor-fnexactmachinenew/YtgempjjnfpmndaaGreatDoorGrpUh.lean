/-
  The contract of spec.l1In.
  spec.l15Step exactly, op by op (chapter 15).
  spec.l15Step exactly, op by op (chapter 15).
  spec.l15Step exactly, op by op (chapter 15).
  spec.l15Step exactly, op by op (chapter 15).
  spec.l15Step exactly (chapter 15).
  spec.UnitOk exactly (chapter 15).
-/
import Derived.Deep.CutRange
import Derived.Test.YtgempjjnfpmndaaGreatDoorSlabI
import Derived.Test.YtgempjjnfpmndaaGreatDoorUntP
namespace Go.Proofs.YtgempjjnfpmndaaGreatDoor
open Go.RowKit
theorem l1InS_yes (a b c : Int) (w : World) (h1 : b ≤ a) (h2 : a ≤ c) : Calls Tryz.prog 71 #[.int .i64 a, .int .i64 b, .int .i64 c] w fun e w' => e = .returned (.bool true) ∧ w' = w := by
  go_enter Tryz.func71, Tryz.ntmps71
  go_wp2
  go_ret
  exact ⟨rfl, rfl⟩
theorem l1InS_no (a b c : Int) (w : World) (h : a < b ∨ c < a) : Calls Tryz.prog 71 #[.int .i64 a, .int .i64 b, .int .i64 c] w fun e w' => e = .returned (.bool false) ∧ w' = w := by
  rcases Int.lt_or_le a b with h1 | h1
  · go_enter Tryz.func71, Tryz.ntmps71
    go_wp2
    go_ret
    exact ⟨rfl, rfl⟩
  · have h2 : c < a := by omega
    have h3 : ¬ a ≤ c := by omega
    clear h h2
    go_enter Tryz.func71, Tryz.ntmps71
    go_wp2
    go_ret
    exact ⟨rfl, rfl⟩
theorem l1InS (a b c : Int) (w : World) : Calls Tryz.prog 71 #[.int .i64 a, .int .i64 b, .int .i64 c] w fun e w' => e = .returned (.bool (decide (b ≤ a ∧ a ≤ c))) ∧ w' = w := by
  by_cases h : b ≤ a ∧ a ≤ c
  · rw [decide_eq_true h]; exact l1InS_yes a b c w h.1 h.2
  · rw [decide_eq_false h]; exact l1InS_no a b c w (by omega)
end Go.Proofs.YtgempjjnfpmndaaGreatDoor
namespace Go.Proofs.YtgempjjnfpmndaaGreatDoor
open Go.RowKit
set_option linter.unusedSimpArgs false
set_option linter.unusedVariables false
set_option maxHeartbeats 4000000 in
set_option maxRecDepth 100000 in
theorem l15Step_1 (w : World) (ca ta xa : Option Addr) (cc tc xc nc nt ns : Nat) (n v : Int) (hnc : nc ≤ 1048576) (hnt : nt ≤ 1048576) (hns : ns ≤ 1048576) (x y : Int) :
    Calls Tryz.prog 96 #[.agg #[.slice ca nc cc, .slice ta nt tc], .agg #[.int .i64 n, .int .i64 v, .slice xa ns xc], .agg #[.int .i64 1, .int .i64 x, .int .i64 y]] w fun e w' => e = .returned (.bool (stpR (1, x, y) nt nc ns)) ∧ Kept w w' := by
  have k0 : Kept w (((w.alloc (.cells #[.slice ca nc cc, .slice ta nt tc] 38)).alloc (.cells #[.int .i64 n, .int .i64 v, .slice xa ns xc] 91)).alloc (.cells #[.int .i64 1, .int .i64 x, .int .i64 y] 131)) := ((Kept.alloc (Below.refl _ _) _).alloc _).alloc _
  have k1 := k0.drew
  have HS : Hid (stpR (1, x, y) nt nc ns = (decide ((-2147483648) ≤ x ∧ x ≤ 2147483647) && decide (0 ≤ y ∧ y ≤ 0))) := by rw [Hid, stpR]; rfl
  have HI : Hid (∀ u, Calls Tryz.prog 71 #[.int .i64 x, .int .i64 (-2147483648), .int .i64 2147483647] u fun e w' => e = .returned (.bool (decide ((-2147483648) ≤ x ∧ x ≤ 2147483647))) ∧ w' = u) := fun u => l1InS x (-2147483648) 2147483647 u
  have HY : Hid (decide (0 ≤ y ∧ y ≤ 0) = (y == 0)) := by
    rw [Hid]
    by_cases hy : y = 0
    · subst hy; decide
    · rw [decide_eq_false (by omega)]; simpa using hy
  rw [HY.out] at HS
  by_cases h1 : (-2147483648) ≤ x ∧ x ≤ 2147483647
  · have HE : Hid (stpR (1, x, y) nt nc ns = (y == 0)) := by rw [Hid, HS.out, decide_eq_true h1, Bool.true_and]
    rw [decide_eq_true h1] at HI
    clear h1
    go_enter Tryz.func96, Tryz.ntmps96
    go_wp2_with fail
    go_region
    all_goals (
      go_wp2_with (go_at_call 71; refine (HI.out _).mono ?_; rintro e wx ⟨rfl, rfl⟩)
      go_ret
      exact ⟨by rw [HE.out]; rfl, k1⟩)
  · have HE : Hid (stpR (1, x, y) nt nc ns = false) := by rw [Hid, HS.out, decide_eq_false h1, Bool.false_and]
    rw [decide_eq_false h1] at HI
    clear h1
    go_enter Tryz.func96, Tryz.ntmps96
    go_wp2_with fail
    go_region
    all_goals (
      go_wp2_with (go_at_call 71; refine (HI.out _).mono ?_; rintro e wx ⟨rfl, rfl⟩)
      go_ret
      exact ⟨by rw [HE.out]; rfl, k1⟩)
set_option maxHeartbeats 4000000 in
set_option maxRecDepth 100000 in
theorem l15Step_2 (w : World) (ca ta xa : Option Addr) (cc tc xc nc nt ns : Nat) (n v : Int) (hnc : nc ≤ 1048576) (hnt : nt ≤ 1048576) (hns : ns ≤ 1048576) (x y : Int) :
    Calls Tryz.prog 96 #[.agg #[.slice ca nc cc, .slice ta nt tc], .agg #[.int .i64 n, .int .i64 v, .slice xa ns xc], .agg #[.int .i64 2, .int .i64 x, .int .i64 y]] w fun e w' => e = .returned (.bool (stpR (2, x, y) nt nc ns)) ∧ Kept w w' := by
  have k0 : Kept w (((w.alloc (.cells #[.slice ca nc cc, .slice ta nt tc] 38)).alloc (.cells #[.int .i64 n, .int .i64 v, .slice xa ns xc] 91)).alloc (.cells #[.int .i64 2, .int .i64 x, .int .i64 y] 131)) := ((Kept.alloc (Below.refl _ _) _).alloc _).alloc _
  have k1 := k0.drew
  have HS : Hid (stpR (2, x, y) nt nc ns = (decide (0 ≤ x ∧ x ≤ ((nt : Int) - 1)) && decide (0 ≤ y ∧ y ≤ 0))) := by rw [Hid, stpR]; rfl
  have HI : Hid (∀ u, Calls Tryz.prog 71 #[.int .i64 x, .int .i64 0, .int .i64 ((nt : Int) - 1)] u fun e w' => e = .returned (.bool (decide (0 ≤ x ∧ x ≤ ((nt : Int) - 1)))) ∧ w' = u) := fun u => l1InS x 0 ((nt : Int) - 1) u
  have HY : Hid (decide (0 ≤ y ∧ y ≤ 0) = (y == 0)) := by
    rw [Hid]
    by_cases hy : y = 0
    · subst hy; decide
    · rw [decide_eq_false (by omega)]; simpa using hy
  rw [HY.out] at HS
  by_cases h1 : 0 ≤ x ∧ x ≤ ((nt : Int) - 1)
  · have HE : Hid (stpR (2, x, y) nt nc ns = (y == 0)) := by rw [Hid, HS.out, decide_eq_true h1, Bool.true_and]
    rw [decide_eq_true h1] at HI
    clear h1
    go_enter Tryz.func96, Tryz.ntmps96
    go_wp2_with fail
    go_region
    all_goals (
      go_wp2_with (go_at_call 71; refine (HI.out _).mono ?_; rintro e wx ⟨rfl, rfl⟩)
      go_ret
      exact ⟨by rw [HE.out]; rfl, k1⟩)
  · have HE : Hid (stpR (2, x, y) nt nc ns = false) := by rw [Hid, HS.out, decide_eq_false h1, Bool.false_and]
    rw [decide_eq_false h1] at HI
    clear h1
    go_enter Tryz.func96, Tryz.ntmps96
    go_wp2_with fail
    go_region
    all_goals (
      go_wp2_with (go_at_call 71; refine (HI.out _).mono ?_; rintro e wx ⟨rfl, rfl⟩)
      go_ret
      exact ⟨by rw [HE.out]; rfl, k1⟩)
set_option maxHeartbeats 4000000 in
set_option maxRecDepth 100000 in
theorem l15Step_9 (w : World) (ca ta xa : Option Addr) (cc tc xc nc nt ns : Nat) (n v : Int) (hnc : nc ≤ 1048576) (hnt : nt ≤ 1048576) (hns : ns ≤ 1048576) (x y : Int) :
    Calls Tryz.prog 96 #[.agg #[.slice ca nc cc, .slice ta nt tc], .agg #[.int .i64 n, .int .i64 v, .slice xa ns xc], .agg #[.int .i64 9, .int .i64 x, .int .i64 y]] w fun e w' => e = .returned (.bool (stpR (9, x, y) nt nc ns)) ∧ Kept w w' := by
  have k0 : Kept w (((w.alloc (.cells #[.slice ca nc cc, .slice ta nt tc] 38)).alloc (.cells #[.int .i64 n, .int .i64 v, .slice xa ns xc] 91)).alloc (.cells #[.int .i64 9, .int .i64 x, .int .i64 y] 131)) := ((Kept.alloc (Below.refl _ _) _).alloc _).alloc _
  have k1 := k0.drew
  have HS : Hid (stpR (9, x, y) nt nc ns = (decide (0 ≤ x ∧ x ≤ ((nt : Int) - 1)) && decide (0 ≤ y ∧ y ≤ 0))) := by rw [Hid, stpR]; rfl
  have HI : Hid (∀ u, Calls Tryz.prog 71 #[.int .i64 x, .int .i64 0, .int .i64 ((nt : Int) - 1)] u fun e w' => e = .returned (.bool (decide (0 ≤ x ∧ x ≤ ((nt : Int) - 1)))) ∧ w' = u) := fun u => l1InS x 0 ((nt : Int) - 1) u
  have HY : Hid (decide (0 ≤ y ∧ y ≤ 0) = (y == 0)) := by
    rw [Hid]
    by_cases hy : y = 0
    · subst hy; decide
    · rw [decide_eq_false (by omega)]; simpa using hy
  rw [HY.out] at HS
  by_cases h1 : 0 ≤ x ∧ x ≤ ((nt : Int) - 1)
  · have HE : Hid (stpR (9, x, y) nt nc ns = (y == 0)) := by rw [Hid, HS.out, decide_eq_true h1, Bool.true_and]
    rw [decide_eq_true h1] at HI
    clear h1
    go_enter Tryz.func96, Tryz.ntmps96
    go_wp2_with fail
    go_region
    all_goals (
      go_wp2_with (go_at_call 71; refine (HI.out _).mono ?_; rintro e wx ⟨rfl, rfl⟩)
      go_ret
      exact ⟨by rw [HE.out]; rfl, k1⟩)
  · have HE : Hid (stpR (9, x, y) nt nc ns = false) := by rw [Hid, HS.out, decide_eq_false h1, Bool.false_and]
    rw [decide_eq_false h1] at HI
    clear h1
    go_enter Tryz.func96, Tryz.ntmps96
    go_wp2_with fail
    go_region
    all_goals (
      go_wp2_with (go_at_call 71; refine (HI.out _).mono ?_; rintro e wx ⟨rfl, rfl⟩)
      go_ret
      exact ⟨by rw [HE.out]; rfl, k1⟩)
set_option maxHeartbeats 4000000 in
set_option maxRecDepth 100000 in
theorem l15Step_10 (w : World) (ca ta xa : Option Addr) (cc tc xc nc nt ns : Nat) (n v : Int) (hnc : nc ≤ 1048576) (hnt : nt ≤ 1048576) (hns : ns ≤ 1048576) (x y : Int) :
    Calls Tryz.prog 96 #[.agg #[.slice ca nc cc, .slice ta nt tc], .agg #[.int .i64 n, .int .i64 v, .slice xa ns xc], .agg #[.int .i64 10, .int .i64 x, .int .i64 y]] w fun e w' => e = .returned (.bool (stpR (10, x, y) nt nc ns)) ∧ Kept w w' := by
  have k0 : Kept w (((w.alloc (.cells #[.slice ca nc cc, .slice ta nt tc] 38)).alloc (.cells #[.int .i64 n, .int .i64 v, .slice xa ns xc] 91)).alloc (.cells #[.int .i64 10, .int .i64 x, .int .i64 y] 131)) := ((Kept.alloc (Below.refl _ _) _).alloc _).alloc _
  have k1 := k0.drew
  have HS : Hid (stpR (10, x, y) nt nc ns = (decide (0 ≤ x ∧ x ≤ ((nt : Int) - 1)) && decide (0 ≤ y ∧ y ≤ 0))) := by rw [Hid, stpR]; rfl
  have HI : Hid (∀ u, Calls Tryz.prog 71 #[.int .i64 x, .int .i64 0, .int .i64 ((nt : Int) - 1)] u fun e w' => e = .returned (.bool (decide (0 ≤ x ∧ x ≤ ((nt : Int) - 1)))) ∧ w' = u) := fun u => l1InS x 0 ((nt : Int) - 1) u
  have HY : Hid (decide (0 ≤ y ∧ y ≤ 0) = (y == 0)) := by
    rw [Hid]
    by_cases hy : y = 0
    · subst hy; decide
    · rw [decide_eq_false (by omega)]; simpa using hy
  rw [HY.out] at HS
  by_cases h1 : 0 ≤ x ∧ x ≤ ((nt : Int) - 1)
  · have HE : Hid (stpR (10, x, y) nt nc ns = (y == 0)) := by rw [Hid, HS.out, decide_eq_true h1, Bool.true_and]
    rw [decide_eq_true h1] at HI
    clear h1
    go_enter Tryz.func96, Tryz.ntmps96
    go_wp2_with fail
    go_region
    all_goals (
      go_wp2_with (go_at_call 71; refine (HI.out _).mono ?_; rintro e wx ⟨rfl, rfl⟩)
      go_ret
      exact ⟨by rw [HE.out]; rfl, k1⟩)
  · have HE : Hid (stpR (10, x, y) nt nc ns = false) := by rw [Hid, HS.out, decide_eq_false h1, Bool.false_and]
    rw [decide_eq_false h1] at HI
    clear h1
    go_enter Tryz.func96, Tryz.ntmps96
    go_wp2_with fail
    go_region
    all_goals (
      go_wp2_with (go_at_call 71; refine (HI.out _).mono ?_; rintro e wx ⟨rfl, rfl⟩)
      go_ret
      exact ⟨by rw [HE.out]; rfl, k1⟩)
set_option maxHeartbeats 4000000 in
set_option maxRecDepth 100000 in
theorem l15Step_25 (w : World) (ca ta xa : Option Addr) (cc tc xc nc nt ns : Nat) (n v : Int) (hnc : nc ≤ 1048576) (hnt : nt ≤ 1048576) (hns : ns ≤ 1048576) (x y : Int) :
    Calls Tryz.prog 96 #[.agg #[.slice ca nc cc, .slice ta nt tc], .agg #[.int .i64 n, .int .i64 v, .slice xa ns xc], .agg #[.int .i64 25, .int .i64 x, .int .i64 y]] w fun e w' => e = .returned (.bool (stpR (25, x, y) nt nc ns)) ∧ Kept w w' := by
  have k0 : Kept w (((w.alloc (.cells #[.slice ca nc cc, .slice ta nt tc] 38)).alloc (.cells #[.int .i64 n, .int .i64 v, .slice xa ns xc] 91)).alloc (.cells #[.int .i64 25, .int .i64 x, .int .i64 y] 131)) := ((Kept.alloc (Below.refl _ _) _).alloc _).alloc _
  have k1 := k0.drew
  have HS : Hid (stpR (25, x, y) nt nc ns = (decide (0 ≤ x ∧ x ≤ ((nt : Int) - 1)) && decide (0 ≤ y ∧ y ≤ 0))) := by rw [Hid, stpR]; rfl
  have HI : Hid (∀ u, Calls Tryz.prog 71 #[.int .i64 x, .int .i64 0, .int .i64 ((nt : Int) - 1)] u fun e w' => e = .returned (.bool (decide (0 ≤ x ∧ x ≤ ((nt : Int) - 1)))) ∧ w' = u) := fun u => l1InS x 0 ((nt : Int) - 1) u
  have HY : Hid (decide (0 ≤ y ∧ y ≤ 0) = (y == 0)) := by
    rw [Hid]
    by_cases hy : y = 0
    · subst hy; decide
    · rw [decide_eq_false (by omega)]; simpa using hy
  rw [HY.out] at HS
  by_cases h1 : 0 ≤ x ∧ x ≤ ((nt : Int) - 1)
  · have HE : Hid (stpR (25, x, y) nt nc ns = (y == 0)) := by rw [Hid, HS.out, decide_eq_true h1, Bool.true_and]
    rw [decide_eq_true h1] at HI
    clear h1
    go_enter Tryz.func96, Tryz.ntmps96
    go_wp2_with fail
    go_region
    all_goals (
      go_wp2_with (go_at_call 71; refine (HI.out _).mono ?_; rintro e wx ⟨rfl, rfl⟩)
      go_ret
      exact ⟨by rw [HE.out]; rfl, k1⟩)
  · have HE : Hid (stpR (25, x, y) nt nc ns = false) := by rw [Hid, HS.out, decide_eq_false h1, Bool.false_and]
    rw [decide_eq_false h1] at HI
    clear h1
    go_enter Tryz.func96, Tryz.ntmps96
    go_wp2_with fail
    go_region
    all_goals (
      go_wp2_with (go_at_call 71; refine (HI.out _).mono ?_; rintro e wx ⟨rfl, rfl⟩)
      go_ret
      exact ⟨by rw [HE.out]; rfl, k1⟩)
set_option maxHeartbeats 4000000 in
set_option maxRecDepth 100000 in
theorem l15Step_12 (w : World) (ca ta xa : Option Addr) (cc tc xc nc nt ns : Nat) (n v : Int) (hnc : nc ≤ 1048576) (hnt : nt ≤ 1048576) (hns : ns ≤ 1048576) (x y : Int) :
    Calls Tryz.prog 96 #[.agg #[.slice ca nc cc, .slice ta nt tc], .agg #[.int .i64 n, .int .i64 v, .slice xa ns xc], .agg #[.int .i64 12, .int .i64 x, .int .i64 y]] w fun e w' => e = .returned (.bool (stpR (12, x, y) nt nc ns)) ∧ Kept w w' := by
  have k0 : Kept w (((w.alloc (.cells #[.slice ca nc cc, .slice ta nt tc] 38)).alloc (.cells #[.int .i64 n, .int .i64 v, .slice xa ns xc] 91)).alloc (.cells #[.int .i64 12, .int .i64 x, .int .i64 y] 131)) := ((Kept.alloc (Below.refl _ _) _).alloc _).alloc _
  have k1 := k0.drew
  have HS : Hid (stpR (12, x, y) nt nc ns = (decide (0 ≤ x ∧ x ≤ 200) && decide (0 ≤ y ∧ y ≤ 0))) := by rw [Hid, stpR]; rfl
  have HI : Hid (∀ u, Calls Tryz.prog 71 #[.int .i64 x, .int .i64 0, .int .i64 200] u fun e w' => e = .returned (.bool (decide (0 ≤ x ∧ x ≤ 200))) ∧ w' = u) := fun u => l1InS x 0 200 u
  have HY : Hid (decide (0 ≤ y ∧ y ≤ 0) = (y == 0)) := by
    rw [Hid]
    by_cases hy : y = 0
    · subst hy; decide
    · rw [decide_eq_false (by omega)]; simpa using hy
  rw [HY.out] at HS
  by_cases h1 : 0 ≤ x ∧ x ≤ 200
  · have HE : Hid (stpR (12, x, y) nt nc ns = (y == 0)) := by rw [Hid, HS.out, decide_eq_true h1, Bool.true_and]
    rw [decide_eq_true h1] at HI
    clear h1
    go_enter Tryz.func96, Tryz.ntmps96
    go_wp2_with fail
    go_region
    all_goals (
      go_wp2_with (go_at_call 71; refine (HI.out _).mono ?_; rintro e wx ⟨rfl, rfl⟩)
      go_ret
      exact ⟨by rw [HE.out]; rfl, k1⟩)
  · have HE : Hid (stpR (12, x, y) nt nc ns = false) := by rw [Hid, HS.out, decide_eq_false h1, Bool.false_and]
    rw [decide_eq_false h1] at HI
    clear h1
    go_enter Tryz.func96, Tryz.ntmps96
    go_wp2_with fail
    go_region
    all_goals (
      go_wp2_with (go_at_call 71; refine (HI.out _).mono ?_; rintro e wx ⟨rfl, rfl⟩)
      go_ret
      exact ⟨by rw [HE.out]; rfl, k1⟩)
end Go.Proofs.YtgempjjnfpmndaaGreatDoor
namespace Go.Proofs.YtgempjjnfpmndaaGreatDoor
open Go.RowKit
set_option linter.unusedSimpArgs false
set_option linter.unusedVariables false
set_option maxHeartbeats 4000000 in
set_option maxRecDepth 100000 in
theorem l15Step_20 (w : World) (ca ta xa : Option Addr) (cc tc xc nc nt ns : Nat) (n v : Int) (hnc : nc ≤ 1048576) (hnt : nt ≤ 1048576) (hns : ns ≤ 1048576) (x y : Int) :
    Calls Tryz.prog 96 #[.agg #[.slice ca nc cc, .slice ta nt tc], .agg #[.int .i64 n, .int .i64 v, .slice xa ns xc], .agg #[.int .i64 20, .int .i64 x, .int .i64 y]] w fun e w' => e = .returned (.bool (stpR (20, x, y) nt nc ns)) ∧ Kept w w' := by
  have k0 : Kept w (((w.alloc (.cells #[.slice ca nc cc, .slice ta nt tc] 38)).alloc (.cells #[.int .i64 n, .int .i64 v, .slice xa ns xc] 91)).alloc (.cells #[.int .i64 20, .int .i64 x, .int .i64 y] 131)) := ((Kept.alloc (Below.refl _ _) _).alloc _).alloc _
  have k1 := k0.drew
  have HS : Hid (stpR (20, x, y) nt nc ns = (decide (0 ≤ x ∧ x ≤ ((ns : Int) - 1)) && decide (0 ≤ y ∧ y ≤ 0))) := by rw [Hid, stpR]; rfl
  have HI : Hid (∀ u, Calls Tryz.prog 71 #[.int .i64 x, .int .i64 0, .int .i64 ((ns : Int) - 1)] u fun e w' => e = .returned (.bool (decide (0 ≤ x ∧ x ≤ ((ns : Int) - 1)))) ∧ w' = u) := fun u => l1InS x 0 ((ns : Int) - 1) u
  have HY : Hid (decide (0 ≤ y ∧ y ≤ 0) = (y == 0)) := by
    rw [Hid]
    by_cases hy : y = 0
    · subst hy; decide
    · rw [decide_eq_false (by omega)]; simpa using hy
  rw [HY.out] at HS
  by_cases h1 : 0 ≤ x ∧ x ≤ ((ns : Int) - 1)
  · have HE : Hid (stpR (20, x, y) nt nc ns = (y == 0)) := by rw [Hid, HS.out, decide_eq_true h1, Bool.true_and]
    rw [decide_eq_true h1] at HI
    clear h1
    go_enter Tryz.func96, Tryz.ntmps96
    go_wp2_with fail
    go_region
    all_goals (
      go_wp2_with (go_at_call 71; refine (HI.out _).mono ?_; rintro e wx ⟨rfl, rfl⟩)
      go_ret
      exact ⟨by rw [HE.out]; rfl, k1⟩)
  · have HE : Hid (stpR (20, x, y) nt nc ns = false) := by rw [Hid, HS.out, decide_eq_false h1, Bool.false_and]
    rw [decide_eq_false h1] at HI
    clear h1
    go_enter Tryz.func96, Tryz.ntmps96
    go_wp2_with fail
    go_region
    all_goals (
      go_wp2_with (go_at_call 71; refine (HI.out _).mono ?_; rintro e wx ⟨rfl, rfl⟩)
      go_ret
      exact ⟨by rw [HE.out]; rfl, k1⟩)
set_option maxHeartbeats 4000000 in
set_option maxRecDepth 100000 in
theorem l15Step_21 (w : World) (ca ta xa : Option Addr) (cc tc xc nc nt ns : Nat) (n v : Int) (hnc : nc ≤ 1048576) (hnt : nt ≤ 1048576) (hns : ns ≤ 1048576) (x y : Int) :
    Calls Tryz.prog 96 #[.agg #[.slice ca nc cc, .slice ta nt tc], .agg #[.int .i64 n, .int .i64 v, .slice xa ns xc], .agg #[.int .i64 21, .int .i64 x, .int .i64 y]] w fun e w' => e = .returned (.bool (stpR (21, x, y) nt nc ns)) ∧ Kept w w' := by
  have k0 : Kept w (((w.alloc (.cells #[.slice ca nc cc, .slice ta nt tc] 38)).alloc (.cells #[.int .i64 n, .int .i64 v, .slice xa ns xc] 91)).alloc (.cells #[.int .i64 21, .int .i64 x, .int .i64 y] 131)) := ((Kept.alloc (Below.refl _ _) _).alloc _).alloc _
  have k1 := k0.drew
  have HS : Hid (stpR (21, x, y) nt nc ns = (decide (0 ≤ x ∧ x ≤ ((ns : Int) - 1)) && decide (0 ≤ y ∧ y ≤ 0))) := by rw [Hid, stpR]; rfl
  have HI : Hid (∀ u, Calls Tryz.prog 71 #[.int .i64 x, .int .i64 0, .int .i64 ((ns : Int) - 1)] u fun e w' => e = .returned (.bool (decide (0 ≤ x ∧ x ≤ ((ns : Int) - 1)))) ∧ w' = u) := fun u => l1InS x 0 ((ns : Int) - 1) u
  have HY : Hid (decide (0 ≤ y ∧ y ≤ 0) = (y == 0)) := by
    rw [Hid]
    by_cases hy : y = 0
    · subst hy; decide
    · rw [decide_eq_false (by omega)]; simpa using hy
  rw [HY.out] at HS
  by_cases h1 : 0 ≤ x ∧ x ≤ ((ns : Int) - 1)
  · have HE : Hid (stpR (21, x, y) nt nc ns = (y == 0)) := by rw [Hid, HS.out, decide_eq_true h1, Bool.true_and]
    rw [decide_eq_true h1] at HI
    clear h1
    go_enter Tryz.func96, Tryz.ntmps96
    go_wp2_with fail
    go_region
    all_goals (
      go_wp2_with (go_at_call 71; refine (HI.out _).mono ?_; rintro e wx ⟨rfl, rfl⟩)
      go_ret
      exact ⟨by rw [HE.out]; rfl, k1⟩)
  · have HE : Hid (stpR (21, x, y) nt nc ns = false) := by rw [Hid, HS.out, decide_eq_false h1, Bool.false_and]
    rw [decide_eq_false h1] at HI
    clear h1
    go_enter Tryz.func96, Tryz.ntmps96
    go_wp2_with fail
    go_region
    all_goals (
      go_wp2_with (go_at_call 71; refine (HI.out _).mono ?_; rintro e wx ⟨rfl, rfl⟩)
      go_ret
      exact ⟨by rw [HE.out]; rfl, k1⟩)
set_option maxHeartbeats 4000000 in
set_option maxRecDepth 100000 in
theorem l15Step_24 (w : World) (ca ta xa : Option Addr) (cc tc xc nc nt ns : Nat) (n v : Int) (hnc : nc ≤ 1048576) (hnt : nt ≤ 1048576) (hns : ns ≤ 1048576) (x y : Int) :
    Calls Tryz.prog 96 #[.agg #[.slice ca nc cc, .slice ta nt tc], .agg #[.int .i64 n, .int .i64 v, .slice xa ns xc], .agg #[.int .i64 24, .int .i64 x, .int .i64 y]] w fun e w' => e = .returned (.bool (stpR (24, x, y) nt nc ns)) ∧ Kept w w' := by
  have k0 : Kept w (((w.alloc (.cells #[.slice ca nc cc, .slice ta nt tc] 38)).alloc (.cells #[.int .i64 n, .int .i64 v, .slice xa ns xc] 91)).alloc (.cells #[.int .i64 24, .int .i64 x, .int .i64 y] 131)) := ((Kept.alloc (Below.refl _ _) _).alloc _).alloc _
  have k1 := k0.drew
  have HS : Hid (stpR (24, x, y) nt nc ns = (decide (0 ≤ x ∧ x ≤ ((nc : Int) - 1)) && decide (0 ≤ y ∧ y ≤ 0))) := by rw [Hid, stpR]; rfl
  have HI : Hid (∀ u, Calls Tryz.prog 71 #[.int .i64 x, .int .i64 0, .int .i64 ((nc : Int) - 1)] u fun e w' => e = .returned (.bool (decide (0 ≤ x ∧ x ≤ ((nc : Int) - 1)))) ∧ w' = u) := fun u => l1InS x 0 ((nc : Int) - 1) u
  have HY : Hid (decide (0 ≤ y ∧ y ≤ 0) = (y == 0)) := by
    rw [Hid]
    by_cases hy : y = 0
    · subst hy; decide
    · rw [decide_eq_false (by omega)]; simpa using hy
  rw [HY.out] at HS
  by_cases h1 : 0 ≤ x ∧ x ≤ ((nc : Int) - 1)
  · have HE : Hid (stpR (24, x, y) nt nc ns = (y == 0)) := by rw [Hid, HS.out, decide_eq_true h1, Bool.true_and]
    rw [decide_eq_true h1] at HI
    clear h1
    go_enter Tryz.func96, Tryz.ntmps96
    go_wp2_with fail
    go_region
    all_goals (
      go_wp2_with (go_at_call 71; refine (HI.out _).mono ?_; rintro e wx ⟨rfl, rfl⟩)
      go_ret
      exact ⟨by rw [HE.out]; rfl, k1⟩)
  · have HE : Hid (stpR (24, x, y) nt nc ns = false) := by rw [Hid, HS.out, decide_eq_false h1, Bool.false_and]
    rw [decide_eq_false h1] at HI
    clear h1
    go_enter Tryz.func96, Tryz.ntmps96
    go_wp2_with fail
    go_region
    all_goals (
      go_wp2_with (go_at_call 71; refine (HI.out _).mono ?_; rintro e wx ⟨rfl, rfl⟩)
      go_ret
      exact ⟨by rw [HE.out]; rfl, k1⟩)
set_option maxHeartbeats 4000000 in
set_option maxRecDepth 100000 in
theorem l15Step_7 (w : World) (ca ta xa : Option Addr) (cc tc xc nc nt ns : Nat) (n v : Int) (hnc : nc ≤ 1048576) (hnt : nt ≤ 1048576) (hns : ns ≤ 1048576) (x y : Int) :
    Calls Tryz.prog 96 #[.agg #[.slice ca nc cc, .slice ta nt tc], .agg #[.int .i64 n, .int .i64 v, .slice xa ns xc], .agg #[.int .i64 7, .int .i64 x, .int .i64 y]] w fun e w' => e = .returned (.bool (stpR (7, x, y) nt nc ns)) ∧ Kept w w' := by
  have k0 : Kept w (((w.alloc (.cells #[.slice ca nc cc, .slice ta nt tc] 38)).alloc (.cells #[.int .i64 n, .int .i64 v, .slice xa ns xc] 91)).alloc (.cells #[.int .i64 7, .int .i64 x, .int .i64 y] 131)) := ((Kept.alloc (Below.refl _ _) _).alloc _).alloc _
  have k1 := k0.drew
  have HS : Hid (stpR (7, x, y) nt nc ns = (decide (0 ≤ x ∧ x ≤ 40) && decide (0 ≤ y ∧ y ≤ 11))) := by rw [Hid, stpR]; rfl
  have HI : Hid (∀ u, Calls Tryz.prog 71 #[.int .i64 x, .int .i64 0, .int .i64 40] u fun e w' => e = .returned (.bool (decide (0 ≤ x ∧ x ≤ 40))) ∧ w' = u) := fun u => l1InS x 0 40 u
  have HJ : Hid (∀ u, Calls Tryz.prog 71 #[.int .i64 y, .int .i64 0, .int .i64 11] u fun e w' => e = .returned (.bool (decide (0 ≤ y ∧ y ≤ 11))) ∧ w' = u) := fun u => l1InS y 0 11 u
  obtain ⟨q, hq⟩ : ∃ q, decide (0 ≤ y ∧ y ≤ 11) = q := ⟨_, rfl⟩
  rw [hq] at HJ HS
  clear hq
  by_cases h1 : 0 ≤ x ∧ x ≤ 40
  · have HE : Hid (stpR (7, x, y) nt nc ns = q) := by rw [Hid, HS.out, decide_eq_true h1, Bool.true_and]
    rw [decide_eq_true h1] at HI
    clear h1
    go_enter Tryz.func96, Tryz.ntmps96
    go_wp2_with fail
    go_region
    all_goals (
      go_wp2_with (first | (have _tk := tk1; go_at_call 71; refine (HJ.out _).mono ?_; rintro e wx ⟨rfl, rfl⟩) | (go_at_call 71; refine (HI.out _).mono ?_; rintro e wx ⟨rfl, rfl⟩; have tk1 : True := trivial))
      go_ret
      exact ⟨by rw [HE.out]; rfl, k1⟩)
  · have HE : Hid (stpR (7, x, y) nt nc ns = false) := by rw [Hid, HS.out, decide_eq_false h1, Bool.false_and]
    rw [decide_eq_false h1] at HI
    clear h1
    go_enter Tryz.func96, Tryz.ntmps96
    go_wp2_with fail
    go_region
    all_goals (
      go_wp2_with (go_at_call 71; refine (HI.out _).mono ?_; rintro e wx ⟨rfl, rfl⟩)
      go_ret
      exact ⟨by rw [HE.out]; rfl, k1⟩)
set_option maxHeartbeats 4000000 in
set_option maxRecDepth 100000 in
theorem l15Step_8 (w : World) (ca ta xa : Option Addr) (cc tc xc nc nt ns : Nat) (n v : Int) (hnc : nc ≤ 1048576) (hnt : nt ≤ 1048576) (hns : ns ≤ 1048576) (x y : Int) :
    Calls Tryz.prog 96 #[.agg #[.slice ca nc cc, .slice ta nt tc], .agg #[.int .i64 n, .int .i64 v, .slice xa ns xc], .agg #[.int .i64 8, .int .i64 x, .int .i64 y]] w fun e w' => e = .returned (.bool (stpR (8, x, y) nt nc ns)) ∧ Kept w w' := by
  have k0 : Kept w (((w.alloc (.cells #[.slice ca nc cc, .slice ta nt tc] 38)).alloc (.cells #[.int .i64 n, .int .i64 v, .slice xa ns xc] 91)).alloc (.cells #[.int .i64 8, .int .i64 x, .int .i64 y] 131)) := ((Kept.alloc (Below.refl _ _) _).alloc _).alloc _
  have k1 := k0.drew
  have HS : Hid (stpR (8, x, y) nt nc ns = (decide (0 ≤ x ∧ x ≤ 40) && decide (0 ≤ y ∧ y ≤ 11))) := by rw [Hid, stpR]; rfl
  have HI : Hid (∀ u, Calls Tryz.prog 71 #[.int .i64 x, .int .i64 0, .int .i64 40] u fun e w' => e = .returned (.bool (decide (0 ≤ x ∧ x ≤ 40))) ∧ w' = u) := fun u => l1InS x 0 40 u
  have HJ : Hid (∀ u, Calls Tryz.prog 71 #[.int .i64 y, .int .i64 0, .int .i64 11] u fun e w' => e = .returned (.bool (decide (0 ≤ y ∧ y ≤ 11))) ∧ w' = u) := fun u => l1InS y 0 11 u
  obtain ⟨q, hq⟩ : ∃ q, decide (0 ≤ y ∧ y ≤ 11) = q := ⟨_, rfl⟩
  rw [hq] at HJ HS
  clear hq
  by_cases h1 : 0 ≤ x ∧ x ≤ 40
  · have HE : Hid (stpR (8, x, y) nt nc ns = q) := by rw [Hid, HS.out, decide_eq_true h1, Bool.true_and]
    rw [decide_eq_true h1] at HI
    clear h1
    go_enter Tryz.func96, Tryz.ntmps96
    go_wp2_with fail
    go_region
    all_goals (
      go_wp2_with (first | (have _tk := tk1; go_at_call 71; refine (HJ.out _).mono ?_; rintro e wx ⟨rfl, rfl⟩) | (go_at_call 71; refine (HI.out _).mono ?_; rintro e wx ⟨rfl, rfl⟩; have tk1 : True := trivial))
      go_ret
      exact ⟨by rw [HE.out]; rfl, k1⟩)
  · have HE : Hid (stpR (8, x, y) nt nc ns = false) := by rw [Hid, HS.out, decide_eq_false h1, Bool.false_and]
    rw [decide_eq_false h1] at HI
    clear h1
    go_enter Tryz.func96, Tryz.ntmps96
    go_wp2_with fail
    go_region
    all_goals (
      go_wp2_with (go_at_call 71; refine (HI.out _).mono ?_; rintro e wx ⟨rfl, rfl⟩)
      go_ret
      exact ⟨by rw [HE.out]; rfl, k1⟩)
end Go.Proofs.YtgempjjnfpmndaaGreatDoor
namespace Go.Proofs.YtgempjjnfpmndaaGreatDoor
open Go.RowKit
set_option linter.unusedSimpArgs false
set_option linter.unusedVariables false
set_option maxHeartbeats 4000000 in
set_option maxRecDepth 100000 in
theorem l15Step_3 (w : World) (ca ta xa : Option Addr) (cc tc xc nc nt ns : Nat) (n v : Int) (hnc : nc ≤ 1048576) (hnt : nt ≤ 1048576) (hns : ns ≤ 1048576) (x y : Int) :
    Calls Tryz.prog 96 #[.agg #[.slice ca nc cc, .slice ta nt tc], .agg #[.int .i64 n, .int .i64 v, .slice xa ns xc], .agg #[.int .i64 3, .int .i64 x, .int .i64 y]] w fun e w' => e = .returned (.bool (stpR (3, x, y) nt nc ns)) ∧ Kept w w' := by
  have k0 : Kept w (((w.alloc (.cells #[.slice ca nc cc, .slice ta nt tc] 38)).alloc (.cells #[.int .i64 n, .int .i64 v, .slice xa ns xc] 91)).alloc (.cells #[.int .i64 3, .int .i64 x, .int .i64 y] 131)) := ((Kept.alloc (Below.refl _ _) _).alloc _).alloc _
  have k1 := k0.drew
  have HI : Hid (∀ u, Calls Tryz.prog 71 #[.int .i64 3, .int .i64 1, .int .i64 25] u fun e w' => e = .returned (.bool true) ∧ w' = u) := fun u => l1InS_yes 3 1 25 u (by decide) (by decide)
  have HG : Hid (stpR (3, x, y) nt nc ns = ((x == 0) && (y == 0))) := by
    rw [Hid, show stpR (3, x, y) nt nc ns = (decide (0 ≤ x ∧ x ≤ 0) && decide (0 ≤ y ∧ y ≤ 0)) by rw [stpR]; rfl]
    congr 1
    · by_cases hy : x = 0
      · subst hy; decide
      · rw [decide_eq_false (by omega)]; exact Eq.symm (by simpa using hy)
    · by_cases hy : y = 0
      · subst hy; decide
      · rw [decide_eq_false (by omega)]; exact Eq.symm (by simpa using hy)
  by_cases hx : x = 0
  · subst hx
    have HE : Hid (stpR (3, 0, y) nt nc ns = (y == 0)) := by rw [Hid, HG.out]; rfl
    go_enter Tryz.func96, Tryz.ntmps96
    go_wp2_with fail
    go_region
    all_goals (
      go_wp2_with (go_at_call 71; refine (HI.out _).mono ?_; rintro e wx ⟨rfl, rfl⟩)
      go_ret
      exact ⟨by rw [HE.out]; rfl, k1⟩)
  · have hx' : (x == 0) = false := by simpa using hx
    have HE : Hid (stpR (3, x, y) nt nc ns = false) := by rw [Hid, HG.out, hx', Bool.false_and]
    clear hx
    go_enter Tryz.func96, Tryz.ntmps96
    go_wp2_with fail
    go_region
    all_goals (
      go_wp2_with (go_at_call 71; refine (HI.out _).mono ?_; rintro e wx ⟨rfl, rfl⟩)
      go_ret
      exact ⟨by rw [HE.out]; rfl, k1⟩)
set_option maxHeartbeats 4000000 in
set_option maxRecDepth 100000 in
theorem l15Step_4 (w : World) (ca ta xa : Option Addr) (cc tc xc nc nt ns : Nat) (n v : Int) (hnc : nc ≤ 1048576) (hnt : nt ≤ 1048576) (hns : ns ≤ 1048576) (x y : Int) :
    Calls Tryz.prog 96 #[.agg #[.slice ca nc cc, .slice ta nt tc], .agg #[.int .i64 n, .int .i64 v, .slice xa ns xc], .agg #[.int .i64 4, .int .i64 x, .int .i64 y]] w fun e w' => e = .returned (.bool (stpR (4, x, y) nt nc ns)) ∧ Kept w w' := by
  have k0 : Kept w (((w.alloc (.cells #[.slice ca nc cc, .slice ta nt tc] 38)).alloc (.cells #[.int .i64 n, .int .i64 v, .slice xa ns xc] 91)).alloc (.cells #[.int .i64 4, .int .i64 x, .int .i64 y] 131)) := ((Kept.alloc (Below.refl _ _) _).alloc _).alloc _
  have k1 := k0.drew
  have HI : Hid (∀ u, Calls Tryz.prog 71 #[.int .i64 4, .int .i64 1, .int .i64 25] u fun e w' => e = .returned (.bool true) ∧ w' = u) := fun u => l1InS_yes 4 1 25 u (by decide) (by decide)
  have HG : Hid (stpR (4, x, y) nt nc ns = ((x == 0) && (y == 0))) := by
    rw [Hid, show stpR (4, x, y) nt nc ns = (decide (0 ≤ x ∧ x ≤ 0) && decide (0 ≤ y ∧ y ≤ 0)) by rw [stpR]; rfl]
    congr 1
    · by_cases hy : x = 0
      · subst hy; decide
      · rw [decide_eq_false (by omega)]; exact Eq.symm (by simpa using hy)
    · by_cases hy : y = 0
      · subst hy; decide
      · rw [decide_eq_false (by omega)]; exact Eq.symm (by simpa using hy)
  by_cases hx : x = 0
  · subst hx
    have HE : Hid (stpR (4, 0, y) nt nc ns = (y == 0)) := by rw [Hid, HG.out]; rfl
    go_enter Tryz.func96, Tryz.ntmps96
    go_wp2_with fail
    go_region
    all_goals (
      go_wp2_with (go_at_call 71; refine (HI.out _).mono ?_; rintro e wx ⟨rfl, rfl⟩)
      go_ret
      exact ⟨by rw [HE.out]; rfl, k1⟩)
  · have hx' : (x == 0) = false := by simpa using hx
    have HE : Hid (stpR (4, x, y) nt nc ns = false) := by rw [Hid, HG.out, hx', Bool.false_and]
    clear hx
    go_enter Tryz.func96, Tryz.ntmps96
    go_wp2_with fail
    go_region
    all_goals (
      go_wp2_with (go_at_call 71; refine (HI.out _).mono ?_; rintro e wx ⟨rfl, rfl⟩)
      go_ret
      exact ⟨by rw [HE.out]; rfl, k1⟩)
set_option maxHeartbeats 4000000 in
set_option maxRecDepth 100000 in
theorem l15Step_5 (w : World) (ca ta xa : Option Addr) (cc tc xc nc nt ns : Nat) (n v : Int) (hnc : nc ≤ 1048576) (hnt : nt ≤ 1048576) (hns : ns ≤ 1048576) (x y : Int) :
    Calls Tryz.prog 96 #[.agg #[.slice ca nc cc, .slice ta nt tc], .agg #[.int .i64 n, .int .i64 v, .slice xa ns xc], .agg #[.int .i64 5, .int .i64 x, .int .i64 y]] w fun e w' => e = .returned (.bool (stpR (5, x, y) nt nc ns)) ∧ Kept w w' := by
  have k0 : Kept w (((w.alloc (.cells #[.slice ca nc cc, .slice ta nt tc] 38)).alloc (.cells #[.int .i64 n, .int .i64 v, .slice xa ns xc] 91)).alloc (.cells #[.int .i64 5, .int .i64 x, .int .i64 y] 131)) := ((Kept.alloc (Below.refl _ _) _).alloc _).alloc _
  have k1 := k0.drew
  have HI : Hid (∀ u, Calls Tryz.prog 71 #[.int .i64 5, .int .i64 1, .int .i64 25] u fun e w' => e = .returned (.bool true) ∧ w' = u) := fun u => l1InS_yes 5 1 25 u (by decide) (by decide)
  have HG : Hid (stpR (5, x, y) nt nc ns = ((x == 0) && (y == 0))) := by
    rw [Hid, show stpR (5, x, y) nt nc ns = (decide (0 ≤ x ∧ x ≤ 0) && decide (0 ≤ y ∧ y ≤ 0)) by rw [stpR]; rfl]
    congr 1
    · by_cases hy : x = 0
      · subst hy; decide
      · rw [decide_eq_false (by omega)]; exact Eq.symm (by simpa using hy)
    · by_cases hy : y = 0
      · subst hy; decide
      · rw [decide_eq_false (by omega)]; exact Eq.symm (by simpa using hy)
  by_cases hx : x = 0
  · subst hx
    have HE : Hid (stpR (5, 0, y) nt nc ns = (y == 0)) := by rw [Hid, HG.out]; rfl
    go_enter Tryz.func96, Tryz.ntmps96
    go_wp2_with fail
    go_region
    all_goals (
      go_wp2_with (go_at_call 71; refine (HI.out _).mono ?_; rintro e wx ⟨rfl, rfl⟩)
      go_ret
      exact ⟨by rw [HE.out]; rfl, k1⟩)
  · have hx' : (x == 0) = false := by simpa using hx
    have HE : Hid (stpR (5, x, y) nt nc ns = false) := by rw [Hid, HG.out, hx', Bool.false_and]
    clear hx
    go_enter Tryz.func96, Tryz.ntmps96
    go_wp2_with fail
    go_region
    all_goals (
      go_wp2_with (go_at_call 71; refine (HI.out _).mono ?_; rintro e wx ⟨rfl, rfl⟩)
      go_ret
      exact ⟨by rw [HE.out]; rfl, k1⟩)
set_option maxHeartbeats 4000000 in
set_option maxRecDepth 100000 in
theorem l15Step_6 (w : World) (ca ta xa : Option Addr) (cc tc xc nc nt ns : Nat) (n v : Int) (hnc : nc ≤ 1048576) (hnt : nt ≤ 1048576) (hns : ns ≤ 1048576) (x y : Int) :
    Calls Tryz.prog 96 #[.agg #[.slice ca nc cc, .slice ta nt tc], .agg #[.int .i64 n, .int .i64 v, .slice xa ns xc], .agg #[.int .i64 6, .int .i64 x, .int .i64 y]] w fun e w' => e = .returned (.bool (stpR (6, x, y) nt nc ns)) ∧ Kept w w' := by
  have k0 : Kept w (((w.alloc (.cells #[.slice ca nc cc, .slice ta nt tc] 38)).alloc (.cells #[.int .i64 n, .int .i64 v, .slice xa ns xc] 91)).alloc (.cells #[.int .i64 6, .int .i64 x, .int .i64 y] 131)) := ((Kept.alloc (Below.refl _ _) _).alloc _).alloc _
  have k1 := k0.drew
  have HI : Hid (∀ u, Calls Tryz.prog 71 #[.int .i64 6, .int .i64 1, .int .i64 25] u fun e w' => e = .returned (.bool true) ∧ w' = u) := fun u => l1InS_yes 6 1 25 u (by decide) (by decide)
  have HG : Hid (stpR (6, x, y) nt nc ns = ((x == 0) && (y == 0))) := by
    rw [Hid, show stpR (6, x, y) nt nc ns = (decide (0 ≤ x ∧ x ≤ 0) && decide (0 ≤ y ∧ y ≤ 0)) by rw [stpR]; rfl]
    congr 1
    · by_cases hy : x = 0
      · subst hy; decide
      · rw [decide_eq_false (by omega)]; exact Eq.symm (by simpa using hy)
    · by_cases hy : y = 0
      · subst hy; decide
      · rw [decide_eq_false (by omega)]; exact Eq.symm (by simpa using hy)
  by_cases hx : x = 0
  · subst hx
    have HE : Hid (stpR (6, 0, y) nt nc ns = (y == 0)) := by rw [Hid, HG.out]; rfl
    go_enter Tryz.func96, Tryz.ntmps96
    go_wp2_with fail
    go_region
    all_goals (
      go_wp2_with (go_at_call 71; refine (HI.out _).mono ?_; rintro e wx ⟨rfl, rfl⟩)
      go_ret
      exact ⟨by rw [HE.out]; rfl, k1⟩)
  · have hx' : (x == 0) = false := by simpa using hx
    have HE : Hid (stpR (6, x, y) nt nc ns = false) := by rw [Hid, HG.out, hx', Bool.false_and]
    clear hx
    go_enter Tryz.func96, Tryz.ntmps96
    go_wp2_with fail
    go_region
    all_goals (
      go_wp2_with (go_at_call 71; refine (HI.out _).mono ?_; rintro e wx ⟨rfl, rfl⟩)
      go_ret
      exact ⟨by rw [HE.out]; rfl, k1⟩)
set_option maxHeartbeats 4000000 in
set_option maxRecDepth 100000 in
theorem l15Step_11 (w : World) (ca ta xa : Option Addr) (cc tc xc nc nt ns : Nat) (n v : Int) (hnc : nc ≤ 1048576) (hnt : nt ≤ 1048576) (hns : ns ≤ 1048576) (x y : Int) :
    Calls Tryz.prog 96 #[.agg #[.slice ca nc cc, .slice ta nt tc], .agg #[.int .i64 n, .int .i64 v, .slice xa ns xc], .agg #[.int .i64 11, .int .i64 x, .int .i64 y]] w fun e w' => e = .returned (.bool (stpR (11, x, y) nt nc ns)) ∧ Kept w w' := by
  have k0 : Kept w (((w.alloc (.cells #[.slice ca nc cc, .slice ta nt tc] 38)).alloc (.cells #[.int .i64 n, .int .i64 v, .slice xa ns xc] 91)).alloc (.cells #[.int .i64 11, .int .i64 x, .int .i64 y] 131)) := ((Kept.alloc (Below.refl _ _) _).alloc _).alloc _
  have k1 := k0.drew
  have HI : Hid (∀ u, Calls Tryz.prog 71 #[.int .i64 11, .int .i64 1, .int .i64 25] u fun e w' => e = .returned (.bool true) ∧ w' = u) := fun u => l1InS_yes 11 1 25 u (by decide) (by decide)
  have HG : Hid (stpR (11, x, y) nt nc ns = ((x == 0) && (y == 0))) := by
    rw [Hid, show stpR (11, x, y) nt nc ns = (decide (0 ≤ x ∧ x ≤ 0) && decide (0 ≤ y ∧ y ≤ 0)) by rw [stpR]; rfl]
    congr 1
    · by_cases hy : x = 0
      · subst hy; decide
      · rw [decide_eq_false (by omega)]; exact Eq.symm (by simpa using hy)
    · by_cases hy : y = 0
      · subst hy; decide
      · rw [decide_eq_false (by omega)]; exact Eq.symm (by simpa using hy)
  by_cases hx : x = 0
  · subst hx
    have HE : Hid (stpR (11, 0, y) nt nc ns = (y == 0)) := by rw [Hid, HG.out]; rfl
    go_enter Tryz.func96, Tryz.ntmps96
    go_wp2_with fail
    go_region
    all_goals (
      go_wp2_with (go_at_call 71; refine (HI.out _).mono ?_; rintro e wx ⟨rfl, rfl⟩)
      go_ret
      exact ⟨by rw [HE.out]; rfl, k1⟩)
  · have hx' : (x == 0) = false := by simpa using hx
    have HE : Hid (stpR (11, x, y) nt nc ns = false) := by rw [Hid, HG.out, hx', Bool.false_and]
    clear hx
    go_enter Tryz.func96, Tryz.ntmps96
    go_wp2_with fail
    go_region
    all_goals (
      go_wp2_with (go_at_call 71; refine (HI.out _).mono ?_; rintro e wx ⟨rfl, rfl⟩)
      go_ret
      exact ⟨by rw [HE.out]; rfl, k1⟩)
set_option maxHeartbeats 4000000 in
set_option maxRecDepth 100000 in
theorem l15Step_13 (w : World) (ca ta xa : Option Addr) (cc tc xc nc nt ns : Nat) (n v : Int) (hnc : nc ≤ 1048576) (hnt : nt ≤ 1048576) (hns : ns ≤ 1048576) (x y : Int) :
    Calls Tryz.prog 96 #[.agg #[.slice ca nc cc, .slice ta nt tc], .agg #[.int .i64 n, .int .i64 v, .slice xa ns xc], .agg #[.int .i64 13, .int .i64 x, .int .i64 y]] w fun e w' => e = .returned (.bool (stpR (13, x, y) nt nc ns)) ∧ Kept w w' := by
  have k0 : Kept w (((w.alloc (.cells #[.slice ca nc cc, .slice ta nt tc] 38)).alloc (.cells #[.int .i64 n, .int .i64 v, .slice xa ns xc] 91)).alloc (.cells #[.int .i64 13, .int .i64 x, .int .i64 y] 131)) := ((Kept.alloc (Below.refl _ _) _).alloc _).alloc _
  have k1 := k0.drew
  have HI : Hid (∀ u, Calls Tryz.prog 71 #[.int .i64 13, .int .i64 1, .int .i64 25] u fun e w' => e = .returned (.bool true) ∧ w' = u) := fun u => l1InS_yes 13 1 25 u (by decide) (by decide)
  have HG : Hid (stpR (13, x, y) nt nc ns = ((x == 0) && (y == 0))) := by
    rw [Hid, show stpR (13, x, y) nt nc ns = (decide (0 ≤ x ∧ x ≤ 0) && decide (0 ≤ y ∧ y ≤ 0)) by rw [stpR]; rfl]
    congr 1
    · by_cases hy : x = 0
      · subst hy; decide
      · rw [decide_eq_false (by omega)]; exact Eq.symm (by simpa using hy)
    · by_cases hy : y = 0
      · subst hy; decide
      · rw [decide_eq_false (by omega)]; exact Eq.symm (by simpa using hy)
  by_cases hx : x = 0
  · subst hx
    have HE : Hid (stpR (13, 0, y) nt nc ns = (y == 0)) := by rw [Hid, HG.out]; rfl
    go_enter Tryz.func96, Tryz.ntmps96
    go_wp2_with fail
    go_region
    all_goals (
      go_wp2_with (go_at_call 71; refine (HI.out _).mono ?_; rintro e wx ⟨rfl, rfl⟩)
      go_ret
      exact ⟨by rw [HE.out]; rfl, k1⟩)
  · have hx' : (x == 0) = false := by simpa using hx
    have HE : Hid (stpR (13, x, y) nt nc ns = false) := by rw [Hid, HG.out, hx', Bool.false_and]
    clear hx
    go_enter Tryz.func96, Tryz.ntmps96
    go_wp2_with fail
    go_region
    all_goals (
      go_wp2_with (go_at_call 71; refine (HI.out _).mono ?_; rintro e wx ⟨rfl, rfl⟩)
      go_ret
      exact ⟨by rw [HE.out]; rfl, k1⟩)
set_option maxHeartbeats 4000000 in
set_option maxRecDepth 100000 in
theorem l15Step_14 (w : World) (ca ta xa : Option Addr) (cc tc xc nc nt ns : Nat) (n v : Int) (hnc : nc ≤ 1048576) (hnt : nt ≤ 1048576) (hns : ns ≤ 1048576) (x y : Int) :
    Calls Tryz.prog 96 #[.agg #[.slice ca nc cc, .slice ta nt tc], .agg #[.int .i64 n, .int .i64 v, .slice xa ns xc], .agg #[.int .i64 14, .int .i64 x, .int .i64 y]] w fun e w' => e = .returned (.bool (stpR (14, x, y) nt nc ns)) ∧ Kept w w' := by
  have k0 : Kept w (((w.alloc (.cells #[.slice ca nc cc, .slice ta nt tc] 38)).alloc (.cells #[.int .i64 n, .int .i64 v, .slice xa ns xc] 91)).alloc (.cells #[.int .i64 14, .int .i64 x, .int .i64 y] 131)) := ((Kept.alloc (Below.refl _ _) _).alloc _).alloc _
  have k1 := k0.drew
  have HI : Hid (∀ u, Calls Tryz.prog 71 #[.int .i64 14, .int .i64 1, .int .i64 25] u fun e w' => e = .returned (.bool true) ∧ w' = u) := fun u => l1InS_yes 14 1 25 u (by decide) (by decide)
  have HG : Hid (stpR (14, x, y) nt nc ns = ((x == 0) && (y == 0))) := by
    rw [Hid, show stpR (14, x, y) nt nc ns = (decide (0 ≤ x ∧ x ≤ 0) && decide (0 ≤ y ∧ y ≤ 0)) by rw [stpR]; rfl]
    congr 1
    · by_cases hy : x = 0
      · subst hy; decide
      · rw [decide_eq_false (by omega)]; exact Eq.symm (by simpa using hy)
    · by_cases hy : y = 0
      · subst hy; decide
      · rw [decide_eq_false (by omega)]; exact Eq.symm (by simpa using hy)
  by_cases hx : x = 0
  · subst hx
    have HE : Hid (stpR (14, 0, y) nt nc ns = (y == 0)) := by rw [Hid, HG.out]; rfl
    go_enter Tryz.func96, Tryz.ntmps96
    go_wp2_with fail
    go_region
    all_goals (
      go_wp2_with (go_at_call 71; refine (HI.out _).mono ?_; rintro e wx ⟨rfl, rfl⟩)
      go_ret
      exact ⟨by rw [HE.out]; rfl, k1⟩)
  · have hx' : (x == 0) = false := by simpa using hx
    have HE : Hid (stpR (14, x, y) nt nc ns = false) := by rw [Hid, HG.out, hx', Bool.false_and]
    clear hx
    go_enter Tryz.func96, Tryz.ntmps96
    go_wp2_with fail
    go_region
    all_goals (
      go_wp2_with (go_at_call 71; refine (HI.out _).mono ?_; rintro e wx ⟨rfl, rfl⟩)
      go_ret
      exact ⟨by rw [HE.out]; rfl, k1⟩)
end Go.Proofs.YtgempjjnfpmndaaGreatDoor
namespace Go.Proofs.YtgempjjnfpmndaaGreatDoor
open Go.RowKit
set_option linter.unusedSimpArgs false
set_option linter.unusedVariables false
set_option maxHeartbeats 4000000 in
set_option maxRecDepth 100000 in
theorem l15Step_15 (w : World) (ca ta xa : Option Addr) (cc tc xc nc nt ns : Nat) (n v : Int) (hnc : nc ≤ 1048576) (hnt : nt ≤ 1048576) (hns : ns ≤ 1048576) (x y : Int) :
    Calls Tryz.prog 96 #[.agg #[.slice ca nc cc, .slice ta nt tc], .agg #[.int .i64 n, .int .i64 v, .slice xa ns xc], .agg #[.int .i64 15, .int .i64 x, .int .i64 y]] w fun e w' => e = .returned (.bool (stpR (15, x, y) nt nc ns)) ∧ Kept w w' := by
  have k0 : Kept w (((w.alloc (.cells #[.slice ca nc cc, .slice ta nt tc] 38)).alloc (.cells #[.int .i64 n, .int .i64 v, .slice xa ns xc] 91)).alloc (.cells #[.int .i64 15, .int .i64 x, .int .i64 y] 131)) := ((Kept.alloc (Below.refl _ _) _).alloc _).alloc _
  have k1 := k0.drew
  have HI : Hid (∀ u, Calls Tryz.prog 71 #[.int .i64 15, .int .i64 1, .int .i64 25] u fun e w' => e = .returned (.bool true) ∧ w' = u) := fun u => l1InS_yes 15 1 25 u (by decide) (by decide)
  have HG : Hid (stpR (15, x, y) nt nc ns = ((x == 0) && (y == 0))) := by
    rw [Hid, show stpR (15, x, y) nt nc ns = (decide (0 ≤ x ∧ x ≤ 0) && decide (0 ≤ y ∧ y ≤ 0)) by rw [stpR]; rfl]
    congr 1
    · by_cases hy : x = 0
      · subst hy; decide
      · rw [decide_eq_false (by omega)]; exact Eq.symm (by simpa using hy)
    · by_cases hy : y = 0
      · subst hy; decide
      · rw [decide_eq_false (by omega)]; exact Eq.symm (by simpa using hy)
  by_cases hx : x = 0
  · subst hx
    have HE : Hid (stpR (15, 0, y) nt nc ns = (y == 0)) := by rw [Hid, HG.out]; rfl
    go_enter Tryz.func96, Tryz.ntmps96
    go_wp2_with fail
    go_region
    all_goals (
      go_wp2_with (go_at_call 71; refine (HI.out _).mono ?_; rintro e wx ⟨rfl, rfl⟩)
      go_ret
      exact ⟨by rw [HE.out]; rfl, k1⟩)
  · have hx' : (x == 0) = false := by simpa using hx
    have HE : Hid (stpR (15, x, y) nt nc ns = false) := by rw [Hid, HG.out, hx', Bool.false_and]
    clear hx
    go_enter Tryz.func96, Tryz.ntmps96
    go_wp2_with fail
    go_region
    all_goals (
      go_wp2_with (go_at_call 71; refine (HI.out _).mono ?_; rintro e wx ⟨rfl, rfl⟩)
      go_ret
      exact ⟨by rw [HE.out]; rfl, k1⟩)
set_option maxHeartbeats 4000000 in
set_option maxRecDepth 100000 in
theorem l15Step_16 (w : World) (ca ta xa : Option Addr) (cc tc xc nc nt ns : Nat) (n v : Int) (hnc : nc ≤ 1048576) (hnt : nt ≤ 1048576) (hns : ns ≤ 1048576) (x y : Int) :
    Calls Tryz.prog 96 #[.agg #[.slice ca nc cc, .slice ta nt tc], .agg #[.int .i64 n, .int .i64 v, .slice xa ns xc], .agg #[.int .i64 16, .int .i64 x, .int .i64 y]] w fun e w' => e = .returned (.bool (stpR (16, x, y) nt nc ns)) ∧ Kept w w' := by
  have k0 : Kept w (((w.alloc (.cells #[.slice ca nc cc, .slice ta nt tc] 38)).alloc (.cells #[.int .i64 n, .int .i64 v, .slice xa ns xc] 91)).alloc (.cells #[.int .i64 16, .int .i64 x, .int .i64 y] 131)) := ((Kept.alloc (Below.refl _ _) _).alloc _).alloc _
  have k1 := k0.drew
  have HI : Hid (∀ u, Calls Tryz.prog 71 #[.int .i64 16, .int .i64 1, .int .i64 25] u fun e w' => e = .returned (.bool true) ∧ w' = u) := fun u => l1InS_yes 16 1 25 u (by decide) (by decide)
  have HG : Hid (stpR (16, x, y) nt nc ns = ((x == 0) && (y == 0))) := by
    rw [Hid, show stpR (16, x, y) nt nc ns = (decide (0 ≤ x ∧ x ≤ 0) && decide (0 ≤ y ∧ y ≤ 0)) by rw [stpR]; rfl]
    congr 1
    · by_cases hy : x = 0
      · subst hy; decide
      · rw [decide_eq_false (by omega)]; exact Eq.symm (by simpa using hy)
    · by_cases hy : y = 0
      · subst hy; decide
      · rw [decide_eq_false (by omega)]; exact Eq.symm (by simpa using hy)
  by_cases hx : x = 0
  · subst hx
    have HE : Hid (stpR (16, 0, y) nt nc ns = (y == 0)) := by rw [Hid, HG.out]; rfl
    go_enter Tryz.func96, Tryz.ntmps96
    go_wp2_with fail
    go_region
    all_goals (
      go_wp2_with (go_at_call 71; refine (HI.out _).mono ?_; rintro e wx ⟨rfl, rfl⟩)
      go_ret
      exact ⟨by rw [HE.out]; rfl, k1⟩)
  · have hx' : (x == 0) = false := by simpa using hx
    have HE : Hid (stpR (16, x, y) nt nc ns = false) := by rw [Hid, HG.out, hx', Bool.false_and]
    clear hx
    go_enter Tryz.func96, Tryz.ntmps96
    go_wp2_with fail
    go_region
    all_goals (
      go_wp2_with (go_at_call 71; refine (HI.out _).mono ?_; rintro e wx ⟨rfl, rfl⟩)
      go_ret
      exact ⟨by rw [HE.out]; rfl, k1⟩)
set_option maxHeartbeats 4000000 in
set_option maxRecDepth 100000 in
theorem l15Step_17 (w : World) (ca ta xa : Option Addr) (cc tc xc nc nt ns : Nat) (n v : Int) (hnc : nc ≤ 1048576) (hnt : nt ≤ 1048576) (hns : ns ≤ 1048576) (x y : Int) :
    Calls Tryz.prog 96 #[.agg #[.slice ca nc cc, .slice ta nt tc], .agg #[.int .i64 n, .int .i64 v, .slice xa ns xc], .agg #[.int .i64 17, .int .i64 x, .int .i64 y]] w fun e w' => e = .returned (.bool (stpR (17, x, y) nt nc ns)) ∧ Kept w w' := by
  have k0 : Kept w (((w.alloc (.cells #[.slice ca nc cc, .slice ta nt tc] 38)).alloc (.cells #[.int .i64 n, .int .i64 v, .slice xa ns xc] 91)).alloc (.cells #[.int .i64 17, .int .i64 x, .int .i64 y] 131)) := ((Kept.alloc (Below.refl _ _) _).alloc _).alloc _
  have k1 := k0.drew
  have HI : Hid (∀ u, Calls Tryz.prog 71 #[.int .i64 17, .int .i64 1, .int .i64 25] u fun e w' => e = .returned (.bool true) ∧ w' = u) := fun u => l1InS_yes 17 1 25 u (by decide) (by decide)
  have HG : Hid (stpR (17, x, y) nt nc ns = ((x == 0) && (y == 0))) := by
    rw [Hid, show stpR (17, x, y) nt nc ns = (decide (0 ≤ x ∧ x ≤ 0) && decide (0 ≤ y ∧ y ≤ 0)) by rw [stpR]; rfl]
    congr 1
    · by_cases hy : x = 0
      · subst hy; decide
      · rw [decide_eq_false (by omega)]; exact Eq.symm (by simpa using hy)
    · by_cases hy : y = 0
      · subst hy; decide
      · rw [decide_eq_false (by omega)]; exact Eq.symm (by simpa using hy)
  by_cases hx : x = 0
  · subst hx
    have HE : Hid (stpR (17, 0, y) nt nc ns = (y == 0)) := by rw [Hid, HG.out]; rfl
    go_enter Tryz.func96, Tryz.ntmps96
    go_wp2_with fail
    go_region
    all_goals (
      go_wp2_with (go_at_call 71; refine (HI.out _).mono ?_; rintro e wx ⟨rfl, rfl⟩)
      go_ret
      exact ⟨by rw [HE.out]; rfl, k1⟩)
  · have hx' : (x == 0) = false := by simpa using hx
    have HE : Hid (stpR (17, x, y) nt nc ns = false) := by rw [Hid, HG.out, hx', Bool.false_and]
    clear hx
    go_enter Tryz.func96, Tryz.ntmps96
    go_wp2_with fail
    go_region
    all_goals (
      go_wp2_with (go_at_call 71; refine (HI.out _).mono ?_; rintro e wx ⟨rfl, rfl⟩)
      go_ret
      exact ⟨by rw [HE.out]; rfl, k1⟩)
set_option maxHeartbeats 4000000 in
set_option maxRecDepth 100000 in
theorem l15Step_18 (w : World) (ca ta xa : Option Addr) (cc tc xc nc nt ns : Nat) (n v : Int) (hnc : nc ≤ 1048576) (hnt : nt ≤ 1048576) (hns : ns ≤ 1048576) (x y : Int) :
    Calls Tryz.prog 96 #[.agg #[.slice ca nc cc, .slice ta nt tc], .agg #[.int .i64 n, .int .i64 v, .slice xa ns xc], .agg #[.int .i64 18, .int .i64 x, .int .i64 y]] w fun e w' => e = .returned (.bool (stpR (18, x, y) nt nc ns)) ∧ Kept w w' := by
  have k0 : Kept w (((w.alloc (.cells #[.slice ca nc cc, .slice ta nt tc] 38)).alloc (.cells #[.int .i64 n, .int .i64 v, .slice xa ns xc] 91)).alloc (.cells #[.int .i64 18, .int .i64 x, .int .i64 y] 131)) := ((Kept.alloc (Below.refl _ _) _).alloc _).alloc _
  have k1 := k0.drew
  have HI : Hid (∀ u, Calls Tryz.prog 71 #[.int .i64 18, .int .i64 1, .int .i64 25] u fun e w' => e = .returned (.bool true) ∧ w' = u) := fun u => l1InS_yes 18 1 25 u (by decide) (by decide)
  have HG : Hid (stpR (18, x, y) nt nc ns = ((x == 0) && (y == 0))) := by
    rw [Hid, show stpR (18, x, y) nt nc ns = (decide (0 ≤ x ∧ x ≤ 0) && decide (0 ≤ y ∧ y ≤ 0)) by rw [stpR]; rfl]
    congr 1
    · by_cases hy : x = 0
      · subst hy; decide
      · rw [decide_eq_false (by omega)]; exact Eq.symm (by simpa using hy)
    · by_cases hy : y = 0
      · subst hy; decide
      · rw [decide_eq_false (by omega)]; exact Eq.symm (by simpa using hy)
  by_cases hx : x = 0
  · subst hx
    have HE : Hid (stpR (18, 0, y) nt nc ns = (y == 0)) := by rw [Hid, HG.out]; rfl
    go_enter Tryz.func96, Tryz.ntmps96
    go_wp2_with fail
    go_region
    all_goals (
      go_wp2_with (go_at_call 71; refine (HI.out _).mono ?_; rintro e wx ⟨rfl, rfl⟩)
      go_ret
      exact ⟨by rw [HE.out]; rfl, k1⟩)
  · have hx' : (x == 0) = false := by simpa using hx
    have HE : Hid (stpR (18, x, y) nt nc ns = false) := by rw [Hid, HG.out, hx', Bool.false_and]
    clear hx
    go_enter Tryz.func96, Tryz.ntmps96
    go_wp2_with fail
    go_region
    all_goals (
      go_wp2_with (go_at_call 71; refine (HI.out _).mono ?_; rintro e wx ⟨rfl, rfl⟩)
      go_ret
      exact ⟨by rw [HE.out]; rfl, k1⟩)
set_option maxHeartbeats 4000000 in
set_option maxRecDepth 100000 in
theorem l15Step_19 (w : World) (ca ta xa : Option Addr) (cc tc xc nc nt ns : Nat) (n v : Int) (hnc : nc ≤ 1048576) (hnt : nt ≤ 1048576) (hns : ns ≤ 1048576) (x y : Int) :
    Calls Tryz.prog 96 #[.agg #[.slice ca nc cc, .slice ta nt tc], .agg #[.int .i64 n, .int .i64 v, .slice xa ns xc], .agg #[.int .i64 19, .int .i64 x, .int .i64 y]] w fun e w' => e = .returned (.bool (stpR (19, x, y) nt nc ns)) ∧ Kept w w' := by
  have k0 : Kept w (((w.alloc (.cells #[.slice ca nc cc, .slice ta nt tc] 38)).alloc (.cells #[.int .i64 n, .int .i64 v, .slice xa ns xc] 91)).alloc (.cells #[.int .i64 19, .int .i64 x, .int .i64 y] 131)) := ((Kept.alloc (Below.refl _ _) _).alloc _).alloc _
  have k1 := k0.drew
  have HI : Hid (∀ u, Calls Tryz.prog 71 #[.int .i64 19, .int .i64 1, .int .i64 25] u fun e w' => e = .returned (.bool true) ∧ w' = u) := fun u => l1InS_yes 19 1 25 u (by decide) (by decide)
  have HG : Hid (stpR (19, x, y) nt nc ns = ((x == 0) && (y == 0))) := by
    rw [Hid, show stpR (19, x, y) nt nc ns = (decide (0 ≤ x ∧ x ≤ 0) && decide (0 ≤ y ∧ y ≤ 0)) by rw [stpR]; rfl]
    congr 1
    · by_cases hy : x = 0
      · subst hy; decide
      · rw [decide_eq_false (by omega)]; exact Eq.symm (by simpa using hy)
    · by_cases hy : y = 0
      · subst hy; decide
      · rw [decide_eq_false (by omega)]; exact Eq.symm (by simpa using hy)
  by_cases hx : x = 0
  · subst hx
    have HE : Hid (stpR (19, 0, y) nt nc ns = (y == 0)) := by rw [Hid, HG.out]; rfl
    go_enter Tryz.func96, Tryz.ntmps96
    go_wp2_with fail
    go_region
    all_goals (
      go_wp2_with (go_at_call 71; refine (HI.out _).mono ?_; rintro e wx ⟨rfl, rfl⟩)
      go_ret
      exact ⟨by rw [HE.out]; rfl, k1⟩)
  · have hx' : (x == 0) = false := by simpa using hx
    have HE : Hid (stpR (19, x, y) nt nc ns = false) := by rw [Hid, HG.out, hx', Bool.false_and]
    clear hx
    go_enter Tryz.func96, Tryz.ntmps96
    go_wp2_with fail
    go_region
    all_goals (
      go_wp2_with (go_at_call 71; refine (HI.out _).mono ?_; rintro e wx ⟨rfl, rfl⟩)
      go_ret
      exact ⟨by rw [HE.out]; rfl, k1⟩)
set_option maxHeartbeats 4000000 in
set_option maxRecDepth 100000 in
theorem l15Step_22 (w : World) (ca ta xa : Option Addr) (cc tc xc nc nt ns : Nat) (n v : Int) (hnc : nc ≤ 1048576) (hnt : nt ≤ 1048576) (hns : ns ≤ 1048576) (x y : Int) :
    Calls Tryz.prog 96 #[.agg #[.slice ca nc cc, .slice ta nt tc], .agg #[.int .i64 n, .int .i64 v, .slice xa ns xc], .agg #[.int .i64 22, .int .i64 x, .int .i64 y]] w fun e w' => e = .returned (.bool (stpR (22, x, y) nt nc ns)) ∧ Kept w w' := by
  have k0 : Kept w (((w.alloc (.cells #[.slice ca nc cc, .slice ta nt tc] 38)).alloc (.cells #[.int .i64 n, .int .i64 v, .slice xa ns xc] 91)).alloc (.cells #[.int .i64 22, .int .i64 x, .int .i64 y] 131)) := ((Kept.alloc (Below.refl _ _) _).alloc _).alloc _
  have k1 := k0.drew
  have HI : Hid (∀ u, Calls Tryz.prog 71 #[.int .i64 22, .int .i64 1, .int .i64 25] u fun e w' => e = .returned (.bool true) ∧ w' = u) := fun u => l1InS_yes 22 1 25 u (by decide) (by decide)
  have HG : Hid (stpR (22, x, y) nt nc ns = ((x == 0) && (y == 0))) := by
    rw [Hid, show stpR (22, x, y) nt nc ns = (decide (0 ≤ x ∧ x ≤ 0) && decide (0 ≤ y ∧ y ≤ 0)) by rw [stpR]; rfl]
    congr 1
    · by_cases hy : x = 0
      · subst hy; decide
      · rw [decide_eq_false (by omega)]; exact Eq.symm (by simpa using hy)
    · by_cases hy : y = 0
      · subst hy; decide
      · rw [decide_eq_false (by omega)]; exact Eq.symm (by simpa using hy)
  by_cases hx : x = 0
  · subst hx
    have HE : Hid (stpR (22, 0, y) nt nc ns = (y == 0)) := by rw [Hid, HG.out]; rfl
    go_enter Tryz.func96, Tryz.ntmps96
    go_wp2_with fail
    go_region
    all_goals (
      go_wp2_with (go_at_call 71; refine (HI.out _).mono ?_; rintro e wx ⟨rfl, rfl⟩)
      go_ret
      exact ⟨by rw [HE.out]; rfl, k1⟩)
  · have hx' : (x == 0) = false := by simpa using hx
    have HE : Hid (stpR (22, x, y) nt nc ns = false) := by rw [Hid, HG.out, hx', Bool.false_and]
    clear hx
    go_enter Tryz.func96, Tryz.ntmps96
    go_wp2_with fail
    go_region
    all_goals (
      go_wp2_with (go_at_call 71; refine (HI.out _).mono ?_; rintro e wx ⟨rfl, rfl⟩)
      go_ret
      exact ⟨by rw [HE.out]; rfl, k1⟩)
set_option maxHeartbeats 4000000 in
set_option maxRecDepth 100000 in
theorem l15Step_23 (w : World) (ca ta xa : Option Addr) (cc tc xc nc nt ns : Nat) (n v : Int) (hnc : nc ≤ 1048576) (hnt : nt ≤ 1048576) (hns : ns ≤ 1048576) (x y : Int) :
    Calls Tryz.prog 96 #[.agg #[.slice ca nc cc, .slice ta nt tc], .agg #[.int .i64 n, .int .i64 v, .slice xa ns xc], .agg #[.int .i64 23, .int .i64 x, .int .i64 y]] w fun e w' => e = .returned (.bool (stpR (23, x, y) nt nc ns)) ∧ Kept w w' := by
  have k0 : Kept w (((w.alloc (.cells #[.slice ca nc cc, .slice ta nt tc] 38)).alloc (.cells #[.int .i64 n, .int .i64 v, .slice xa ns xc] 91)).alloc (.cells #[.int .i64 23, .int .i64 x, .int .i64 y] 131)) := ((Kept.alloc (Below.refl _ _) _).alloc _).alloc _
  have k1 := k0.drew
  have HI : Hid (∀ u, Calls Tryz.prog 71 #[.int .i64 23, .int .i64 1, .int .i64 25] u fun e w' => e = .returned (.bool true) ∧ w' = u) := fun u => l1InS_yes 23 1 25 u (by decide) (by decide)
  have HG : Hid (stpR (23, x, y) nt nc ns = ((x == 0) && (y == 0))) := by
    rw [Hid, show stpR (23, x, y) nt nc ns = (decide (0 ≤ x ∧ x ≤ 0) && decide (0 ≤ y ∧ y ≤ 0)) by rw [stpR]; rfl]
    congr 1
    · by_cases hy : x = 0
      · subst hy; decide
      · rw [decide_eq_false (by omega)]; exact Eq.symm (by simpa using hy)
    · by_cases hy : y = 0
      · subst hy; decide
      · rw [decide_eq_false (by omega)]; exact Eq.symm (by simpa using hy)
  by_cases hx : x = 0
  · subst hx
    have HE : Hid (stpR (23, 0, y) nt nc ns = (y == 0)) := by rw [Hid, HG.out]; rfl
    go_enter Tryz.func96, Tryz.ntmps96
    go_wp2_with fail
    go_region
    all_goals (
      go_wp2_with (go_at_call 71; refine (HI.out _).mono ?_; rintro e wx ⟨rfl, rfl⟩)
      go_ret
      exact ⟨by rw [HE.out]; rfl, k1⟩)
  · have hx' : (x == 0) = false := by simpa using hx
    have HE : Hid (stpR (23, x, y) nt nc ns = false) := by rw [Hid, HG.out, hx', Bool.false_and]
    clear hx
    go_enter Tryz.func96, Tryz.ntmps96
    go_wp2_with fail
    go_region
    all_goals (
      go_wp2_with (go_at_call 71; refine (HI.out _).mono ?_; rintro e wx ⟨rfl, rfl⟩)
      go_ret
      exact ⟨by rw [HE.out]; rfl, k1⟩)
end Go.Proofs.YtgempjjnfpmndaaGreatDoor
namespace Go.Proofs.YtgempjjnfpmndaaGreatDoor
open Go.RowKit
set_option linter.unusedSimpArgs false
set_option linter.unusedVariables false
theorem cutOps {op : Int} (h : 1 ≤ op ∧ op ≤ 25) : op = 1 ∨ op = 2 ∨ op = 3 ∨ op = 4 ∨ op = 5 ∨ op = 6 ∨ op = 7 ∨ op = 8 ∨ op = 9 ∨ op = 10 ∨ op = 11 ∨ op = 12 ∨ op = 13 ∨ op = 14 ∨ op = 15 ∨ op = 16 ∨ op = 17 ∨ op = 18 ∨ op = 19 ∨ op = 20 ∨ op = 21 ∨ op = 22 ∨ op = 23 ∨ op = 24 ∨ op = 25 := by omega
set_option maxHeartbeats 4000000 in
set_option maxRecDepth 100000 in
theorem l15Step_ok (w : World) (ca ta xa : Option Addr) (cc tc xc nc nt ns : Nat) (n v : Int) (hnc : nc ≤ 1048576) (hnt : nt ≤ 1048576) (hns : ns ≤ 1048576) (o x y : Int) :
    Calls Tryz.prog 96 #[.agg #[.slice ca nc cc, .slice ta nt tc], .agg #[.int .i64 n, .int .i64 v, .slice xa ns xc], .agg #[.int .i64 o, .int .i64 x, .int .i64 y]] w fun e w' => e = .returned (.bool (stpR (o, x, y) nt nc ns)) ∧ Kept w w' := by
  by_cases h : 1 ≤ o ∧ o ≤ 25
  · rcases cutOps h with rfl | rfl | rfl | rfl | rfl | rfl | rfl | rfl | rfl | rfl | rfl | rfl | rfl | rfl | rfl | rfl | rfl | rfl | rfl | rfl | rfl | rfl | rfl | rfl | rfl
    · exact l15Step_1 w ca ta xa cc tc xc nc nt ns n v hnc hnt hns x y
    · exact l15Step_2 w ca ta xa cc tc xc nc nt ns n v hnc hnt hns x y
    · exact l15Step_3 w ca ta xa cc tc xc nc nt ns n v hnc hnt hns x y
    · exact l15Step_4 w ca ta xa cc tc xc nc nt ns n v hnc hnt hns x y
    · exact l15Step_5 w ca ta xa cc tc xc nc nt ns n v hnc hnt hns x y
    · exact l15Step_6 w ca ta xa cc tc xc nc nt ns n v hnc hnt hns x y
    · exact l15Step_7 w ca ta xa cc tc xc nc nt ns n v hnc hnt hns x y
    · exact l15Step_8 w ca ta xa cc tc xc nc nt ns n v hnc hnt hns x y
    · exact l15Step_9 w ca ta xa cc tc xc nc nt ns n v hnc hnt hns x y
    · exact l15Step_10 w ca ta xa cc tc xc nc nt ns n v hnc hnt hns x y
    · exact l15Step_11 w ca ta xa cc tc xc nc nt ns n v hnc hnt hns x y
    · exact l15Step_12 w ca ta xa cc tc xc nc nt ns n v hnc hnt hns x y
    · exact l15Step_13 w ca ta xa cc tc xc nc nt ns n v hnc hnt hns x y
    · exact l15Step_14 w ca ta xa cc tc xc nc nt ns n v hnc hnt hns x y
    · exact l15Step_15 w ca ta xa cc tc xc nc nt ns n v hnc hnt hns x y
    · exact l15Step_16 w ca ta xa cc tc xc nc nt ns n v hnc hnt hns x y
    · exact l15Step_17 w ca ta xa cc tc xc nc nt ns n v hnc hnt hns x y
    · exact l15Step_18 w ca ta xa cc tc xc nc nt ns n v hnc hnt hns x y
    · exact l15Step_19 w ca ta xa cc tc xc nc nt ns n v hnc hnt hns x y
    · exact l15Step_20 w ca ta xa cc tc xc nc nt ns n v hnc hnt hns x y
    · exact l15Step_21 w ca ta xa cc tc xc nc nt ns n v hnc hnt hns x y
    · exact l15Step_22 w ca ta xa cc tc xc nc nt ns n v hnc hnt hns x y
    · exact l15Step_23 w ca ta xa cc tc xc nc nt ns n v hnc hnt hns x y
    · exact l15Step_24 w ca ta xa cc tc xc nc nt ns n v hnc hnt hns x y
    · exact l15Step_25 w ca ta xa cc tc xc nc nt ns n v hnc hnt hns x y
  · have HE : Hid (stpR (o, x, y) nt nc ns = false) := by rw [Hid, stpR, decide_eq_false h, Bool.false_and]
    have k0 : Kept w (((w.alloc (.cells #[.slice ca nc cc, .slice ta nt tc] 38)).alloc (.cells #[.int .i64 n, .int .i64 v, .slice xa ns xc] 91)).alloc (.cells #[.int .i64 o, .int .i64 x, .int .i64 y] 131)) := ((Kept.alloc (Below.refl _ _) _).alloc _).alloc _
    have k1 := k0.drew
    have HI : Hid (∀ u, Calls Tryz.prog 71 #[.int .i64 o, .int .i64 1, .int .i64 25] u fun e w' => e = .returned (.bool false) ∧ w' = u) := fun u => l1InS_no o 1 25 u (by omega)
    have e1 : (o == 1) = false := by simp; omega
    have e2 : (o == 2) = false := by simp; omega
    have e9 : (o == 9) = false := by simp; omega
    have e10 : (o == 10) = false := by simp; omega
    have e25 : (o == 25) = false := by simp; omega
    have e7 : (o == 7) = false := by simp; omega
    have e8 : (o == 8) = false := by simp; omega
    have e12 : (o == 12) = false := by simp; omega
    have e20 : (o == 20) = false := by simp; omega
    have e21 : (o == 21) = false := by simp; omega
    have e24 : (o == 24) = false := by simp; omega
    clear h hnc hnt hns
    go_enter Tryz.func96, Tryz.ntmps96
    go_wp2_with fail
    go_region
    all_goals (
      go_wp2_with (go_at_call 71; refine (HI.out _).mono ?_; rintro e wx ⟨rfl, rfl⟩)
      go_ret
      exact ⟨by rw [HE.out]; rfl, k1⟩)
end Go.Proofs.YtgempjjnfpmndaaGreatDoor
namespace Go.Proofs.YtgempjjnfpmndaaGreatDoor
open Go.RowKit
set_option linter.unusedSimpArgs false
set_option linter.unusedVariables false
theorem codR_head {c : Cod} {nt nc : Nat} (h : ¬ ((0 ≤ c.v ∧ c.v ≤ 12) ∧ (0 ≤ c.n ∧ c.n ≤ c.v) ∧ (1 ≤ c.ss.length ∧ c.ss.length ≤ 2000))) : codR c nt nc = false := by
  rw [codR, headR, decide_eq_false (by omega), Bool.false_and]
theorem codR_rest {c : Cod} {nt nc : Nat} (h1 : 0 ≤ c.v ∧ c.v ≤ 12) (h2 : 0 ≤ c.n ∧ c.n ≤ c.v) (h3 : 1 ≤ c.ss.length ∧ c.ss.length ≤ 2000) : codR c nt nc = (c.ss.all (fun s => stpR s nt nc c.ss.length) && lastR c) := by
  rw [codR, headR, decide_eq_true (by omega), Bool.true_and]
theorem lastR_at {c : Cod} {s : Stp} (h : c.ss[c.ss.length - 1]? = some s) : lastR c = decide (s.1 = 13) := by
  rw [lastR]; simp only [h]
set_option maxHeartbeats 8000000 in
set_option maxRecDepth 100000 in
theorem spec_UnitOk_ok (w : World) (ca ta : Option Addr) (cc tc : Nat) (cs : List Cod) (ts : List ByteArray) (hA : CodsA w ca cs) (hB : StA w ta ts) (hl : cs.length ≤ 1048576) (ht : ts.length ≤ 1048576) (hss : ∀ c ∈ cs, c.ss.length ≤ 1048576) :
    Calls Tryz.prog 49 #[.agg #[.slice ca cs.length cc, .slice ta ts.length tc]] w fun e w' => e = .returned (.bool (unitR cs ts)) ∧ Kept w w' := by
  have k0 : Kept w (w.alloc (.cells #[.slice ca cs.length cc, .slice ta ts.length tc] 38)) := Kept.alloc (Below.refl _ _) _
  have y0 := Cells.new w 38 #[.slice ca cs.length cc, .slice ta ts.length tc]
  have HC : Hid (unitR cs ts = (decide (1 ≤ cs.length ∧ cs.length ≤ 40) && (textsR ts && cs.all (fun c => codR c ts.length cs.length)))) := rfl
  have HK0 : Hid _ := k0
  have HY0 : Hid _ := y0
  have HA : Hid (CodsA w ca cs) := hA
  have HB : Hid (StA w ta ts) := hB
  have HSS : Hid _ := hss
  by_cases hh : 1 ≤ cs.length ∧ cs.length ≤ 40
  · rw [decide_eq_true hh, Bool.true_and] at HC
    have hI := l1InS_yes (cs.length : Int) 1 40 (w.alloc (.cells #[.slice ca cs.length cc, .slice ta ts.length tc] 38)) (by omega) (by omega)
    by_cases h2 : ts.length ≤ 200
    · have hd : ¬ (200 : Int) < (ts.length : Int) := by omega
      rw [show textsR ts = ts.all (fun t => decide (t.size ≤ 30)) by rw [textsR, decide_eq_true h2, Bool.true_and]] at HC
      clear hA hB hh k0 y0 h2 hss
      go_enter Tryz.func49, Tryz.ntmps49
      go_wp2_with (go_at_call 71; refine hI.mono ?_; rintro e wx ⟨rfl, rfl⟩)
      go_loopw [3] (fun i wr => ∃ k : Nat, i = .int .i64 k ∧ k ≤ ts.length ∧ Hid (∀ (j : Nat) t, j < k → ts[j]? = some t → t.size ≤ 30) ∧ HidW wr (w.alloc (.cells #[.slice ca cs.length cc, .slice ta ts.length tc] 38))) (fun i _ => ts.length - (intOf i).toNat)
      case atStart => exact ⟨0, rfl, Nat.zero_le _, fun j t hj => by omega, ⟨rfl⟩⟩
      case round =>
        obtain ⟨k, rfl, hk, HM, HQ⟩ := hrel
        obtain rfl := HQ.out
        have m := HY0.out
        by_cases hlt : k < ts.length
        · obtain ⟨t, ht'⟩ : ∃ t, ts[k]? = some t := ⟨_, List.getElem?_eq_getElem hlt⟩
          obtain ⟨b, off, rfl, hc⟩ := (StA.kept HB.out HK0.out) k t ht'
          have q1 : (k : Int) < (ts.length : Int) := by omega
          by_cases h3 : t.size ≤ 30
          · have h3' : ¬ (30 : Int) < (t.size : Int) := by omega
            have HM2 : Hid (∀ (j : Nat) t, j < k + 1 → ts[j]? = some t → t.size ≤ 30) := by
              intro j u hj hu
              by_cases hjk : j = k
              · subst hjk
                rw [ht'] at hu
                injection hu with hu
                rw [← hu]
                exact h3
              · exact HM.out j u (by omega) hu
            clear ht' h3 m
            go_wp2_with fail
            go_roundw
            case rel => exact ⟨k + 1, by go_num, by omega, HM2.out, ⟨rfl⟩⟩
            case measure => simp [intOf]; omega
          · have h3' : (30 : Int) < (t.size : Int) := by omega
            have HE : Hid (unitR cs ts = false) := by rw [Hid, HC.out, all_no ht' (by simp; omega), Bool.false_and]
            clear ht' h3 m
            go_wp2_with fail
            go_ret
            exact ⟨by rw [HE.out]; rfl, HK0.out⟩
        · have q1 : ¬ (k : Int) < (ts.length : Int) := by omega
          have hall : ts.all (fun t => decide (t.size ≤ 30)) = true := all_yes (fun j t hj ht => decide_eq_true (HM.out j t (by omega) ht))
          rw [hall, Bool.true_and] at HC
          clear hall m HM
          go_wp2_with fail
          go_loopw [4] (fun i wr => ∃ k : Nat, i = .int .i64 k ∧ k ≤ cs.length ∧ Hid (∀ (j : Nat) c, j < k → cs[j]? = some c → codR c ts.length cs.length = true) ∧ Hid (Kept (w.alloc (.cells #[.slice ca cs.length cc, .slice ta ts.length tc] 38)) wr)) (fun i _ => cs.length - (intOf i).toNat)
          case atStart => exact ⟨0, rfl, Nat.zero_le _, fun j t hj => by omega, Below.refl _ _⟩
          case round =>
            obtain ⟨p, rfl, hp, HM, HK⟩ := hrel
            have kw := Kept.trans HK0.out HK.out
            have m0 := Cells.kept HY0.out HK.out
            have u0 := m0.cell 0; have u1 := m0.cell 1
            by_cases hlt2 : p < cs.length
            · obtain ⟨c, hc⟩ : ∃ c, cs[p]? = some c := ⟨_, List.getElem?_eq_getElem hlt2⟩
              obtain ⟨b, off, xa, xc, rfl, g0, g1, g2, hX⟩ := (CodsA.kept HA.out kw) p c hc
              have q2 : (p : Int) < (cs.length : Int) := by omega
              have hsl := HSS.out c (List.mem_of_getElem? hc)
              have HCc : Hid (cs[p]? = some c) := hc
              obtain ⟨n, v, ss⟩ := c
              simp only at g0 g1 g2 hX hsl
              have ka : Kept wr (wr.alloc (.cells #[.int .i64 n, .int .i64 v, .slice xa ss.length xc] 91)) := Kept.alloc (Below.refl _ _) _
              have n0 := m0.alloc (.cells #[.int .i64 n, .int .i64 v, .slice xa ss.length xc] 91)
              have n1 := Cells.new wr 91 #[.int .i64 n, .int .i64 v, .slice xa ss.length xc]
              have HKA : Hid _ := Kept.trans HK.out ka
              have HX : Hid (StpsA wr xa ss) := hX
              have HN0 : Hid _ := n0
              have HN1 : Hid _ := n1
              by_cases hv : 0 ≤ v ∧ v ≤ 12
              · have hI1 := l1InS_yes v 0 12 (wr.alloc (.cells #[.int .i64 n, .int .i64 v, .slice xa ss.length xc] 91)) hv.1 hv.2
                by_cases hn : 0 ≤ n ∧ n ≤ v
                · have hI2 := l1InS_yes n 0 v (wr.alloc (.cells #[.int .i64 n, .int .i64 v, .slice xa ss.length xc] 91)) hn.1 hn.2
                  by_cases hz : 1 ≤ ss.length ∧ ss.length ≤ 2000
                  · have hI3 := l1InS_yes (ss.length : Int) 1 2000 (wr.alloc (.cells #[.int .i64 n, .int .i64 v, .slice xa ss.length xc] 91)) (by omega) (by omega)
                    obtain ⟨s, hs⟩ : ∃ s, ss[ss.length - 1]? = some s := ⟨_, List.getElem?_eq_getElem (by omega)⟩
                    obtain ⟨xb, xf, rfl, r0, r1, r2⟩ := (hX.kept ka) _ s hs
                    have p0 : (0 : Int) ≤ (ss.length : Int) - 1 := by omega
                    have p1 : (ss.length : Int) - 1 < (ss.length : Int) := by omega
                    have p2 : ((ss.length : Int) - 1).toNat = ss.length - 1 := by omega
                    have HR : Hid (codR ⟨n, v, ss⟩ ts.length cs.length = (ss.all (fun s => stpR s ts.length cs.length ss.length) && decide (s.1 = 13))) := by rw [Hid, codR_rest hv hn hz, lastR_at hs]
                    by_cases h13 : s.1 = 13
                    · have h13' : (s.1 != 13) = false := by simp [h13]
                      rw [decide_eq_true h13, Bool.and_true] at HR
                      have HST : Hid (∀ u o x y, Calls Tryz.prog 96 #[.agg #[.slice (some ⟨b, off, none⟩) cs.length cc, .slice ta ts.length tc], .agg #[.int .i64 n, .int .i64 v, .slice (some ⟨xb, xf, none⟩) ss.length xc], .agg #[.int .i64 o, .int .i64 x, .int .i64 y]] u fun e w' => e = .returned (.bool (stpR (o, x, y) ts.length cs.length ss.length)) ∧ Kept u w') := fun u o x y => l15Step_ok u (some ⟨b, off, none⟩) ta (some ⟨xb, xf, none⟩) cc tc xc cs.length ts.length ss.length n v hl ht hsl o x y
                      have HZ : Hid _ := hz
                      clear hs hv hn hz h13 kw m0 ka n0 n1 hX hc
                      go_wp2_with (first
                        | (have _tk := tk2; go_at_call 71; refine hI3.mono ?_; rintro e wx ⟨rfl, rfl⟩)
                        | (have _tk := tk1; go_at_call 71; refine hI2.mono ?_; rintro e wx ⟨rfl, rfl⟩; have tk2 : True := trivial)
                        | (go_at_call 71; refine hI1.mono ?_; rintro e wx ⟨rfl, rfl⟩; have tk1 : True := trivial))
                      go_loopw [7] (fun i wq => ∃ q : Nat, i = .int .i64 q ∧ q ≤ ss.length ∧ Hid (∀ (j : Nat) s, j < q → ss[j]? = some s → stpR s ts.length cs.length ss.length = true) ∧ Hid (Kept (wr.alloc (.cells #[.int .i64 n, .int .i64 v, .slice (some ⟨xb, xf, none⟩) ss.length xc] 91)) wq)) (fun i _ => ss.length - (intOf i).toNat)
                      case atStart => exact ⟨0, rfl, Nat.zero_le _, fun j t hj => by omega, Below.refl _ _⟩
                      case round =>
                        obtain ⟨q, rfl, hq, HMq, HKq⟩ := hrel
                        have kd : Kept wr wr.drew := (Below.refl _ _).drew
                        have z0 := Cells.kept (Cells.kept HN0.out HKq.out) kd
                        have z1 := Cells.kept (Cells.kept HN1.out HKq.out) kd
                        have t0 := z0.cell 0; have t1 := z0.cell 1; have t2 := z1.cell 0; have t3 := z1.cell 1; have t4 := z1.cell 2
                        have a0 := (Cells.kept HN0.out HKq.out).cell 0; have a1 := (Cells.kept HN0.out HKq.out).cell 1; have a2 := (Cells.kept HN1.out HKq.out).cell 0; have a3 := (Cells.kept HN1.out HKq.out).cell 1; have a4 := (Cells.kept HN1.out HKq.out).cell 2
                        by_cases hlq : q < ss.length
                        · obtain ⟨s', hs'⟩ : ∃ s, ss[q]? = some s := ⟨_, List.getElem?_eq_getElem hlq⟩
                          obtain ⟨xb', xf', ex, r0', r1', r2'⟩ := (StpsA.kept (StpsA.kept (StpsA.kept HX.out (Kept.alloc (Below.refl _ _) _)) HKq.out) kd) q s' hs'
                          simp at ex
                          obtain ⟨rfl, rfl⟩ := ex
                          obtain ⟨o, x, y⟩ := s'
                          have q3 : (q : Int) < (ss.length : Int) := by omega
                          have hC := HST.out wr.drew o x y
                          have HKD : Hid _ := Kept.trans HKq.out kd
                          by_cases h6 : stpR (o, x, y) ts.length cs.length ss.length = true
                          · rw [h6] at hC
                            have HM2 : Hid (∀ (j : Nat) s, j < q + 1 → ss[j]? = some s → stpR s ts.length cs.length ss.length = true) := by
                              intro j u hj hu
                              by_cases hjk : j = q
                              · subst hjk
                                rw [hs'] at hu
                                injection hu with hu
                                rw [← hu]
                                exact h6
                              · exact HMq.out j u (by omega) hu
                            clear hs' h6 z0 z1 kd
                            go_wp2_with fail
                            go_region_with (go_at_call 96; refine hC.mono ?_; rintro e w1 ⟨rfl, hk1⟩)
                            all_goals (
                              go_wp2_with fail
                              go_roundw
                              case rel => exact ⟨q + 1, by go_num, by omega, HM2.out, Kept.trans HKD.out hk1⟩
                              case measure => simp [intOf]; omega)
                          · have h6' : stpR (o, x, y) ts.length cs.length ss.length = false := by simpa using h6
                            rw [h6'] at hC
                            have HE : Hid (unitR cs ts = false) := by rw [Hid, HC.out, all_no HCc.out (by rw [HR.out]; exact all_no hs' h6')]
                            clear hs' h6 h6' z0 z1 kd
                            go_wp2_with fail
                            go_region_with (go_at_call 96; refine hC.mono ?_; rintro e w1 ⟨rfl, hk1⟩)
                            all_goals (
                              go_wp2_with fail
                              go_ret
                              exact ⟨by rw [HE.out]; rfl, Kept.trans HK0.out (Kept.trans HKA.out (Kept.trans HKD.out hk1))⟩)
                        · have q3 : ¬ (q : Int) < (ss.length : Int) := by omega
                          have HM2 : Hid (∀ (j : Nat) c, j < p + 1 → cs[j]? = some c → codR c ts.length cs.length = true) := by
                            intro j u hj hu
                            by_cases hjk : j = p
                            · subst hjk
                              rw [HCc.out] at hu
                              injection hu with hu
                              rw [← hu, HR.out]
                              exact all_yes (fun j t hj ht => HMq.out j t (by omega) ht)
                            · exact HM.out j u (by omega) hu
                          clear z0 z1 kd
                          go_wp2_with fail
                          go_roundw
                          case rel => exact ⟨p + 1, by go_num, by omega, HM2.out, Kept.trans HKA.out HKq.out⟩
                          case measure => simp [intOf]; omega
                    · have h13' : (s.1 != 13) = true := by simpa using h13
                      rw [decide_eq_false h13, Bool.and_false] at HR
                      have HE : Hid (unitR cs ts = false) := by rw [Hid, HC.out, all_no HCc.out HR.out]
                      clear hs hv hn hz h13 kw m0 ka n0 n1 hX hc
                      go_wp2_with (first
                        | (have _tk := tk2; go_at_call 71; refine hI3.mono ?_; rintro e wx ⟨rfl, rfl⟩)
                        | (have _tk := tk1; go_at_call 71; refine hI2.mono ?_; rintro e wx ⟨rfl, rfl⟩; have tk2 : True := trivial)
                        | (go_at_call 71; refine hI1.mono ?_; rintro e wx ⟨rfl, rfl⟩; have tk1 : True := trivial))
                      go_ret
                      exact ⟨by rw [HE.out]; rfl, Kept.trans HK0.out HKA.out⟩
                  · have hI3 := l1InS_no (ss.length : Int) 1 2000 (wr.alloc (.cells #[.int .i64 n, .int .i64 v, .slice xa ss.length xc] 91)) (by omega)
                    have HE : Hid (unitR cs ts = false) := by rw [Hid, HC.out, all_no HCc.out (codR_head (fun h => hz h.2.2))]
                    clear hv hn hz kw m0 ka n0 n1 hX hc
                    go_wp2_with (first
                      | (have _tk := tk2; go_at_call 71; refine hI3.mono ?_; rintro e wx ⟨rfl, rfl⟩)
                      | (have _tk := tk1; go_at_call 71; refine hI2.mono ?_; rintro e wx ⟨rfl, rfl⟩; have tk2 : True := trivial)
                      | (go_at_call 71; refine hI1.mono ?_; rintro e wx ⟨rfl, rfl⟩; have tk1 : True := trivial))
                    go_ret
                    exact ⟨by rw [HE.out]; rfl, Kept.trans HK0.out HKA.out⟩
                · have hI2 := l1InS_no n 0 v (wr.alloc (.cells #[.int .i64 n, .int .i64 v, .slice xa ss.length xc] 91)) (by omega)
                  have HE : Hid (unitR cs ts = false) := by rw [Hid, HC.out, all_no HCc.out (codR_head (fun h => hn h.2.1))]
                  clear hv hn kw m0 ka n0 n1 hX hc
                  go_wp2_with (first
                    | (have _tk := tk1; go_at_call 71; refine hI2.mono ?_; rintro e wx ⟨rfl, rfl⟩)
                    | (go_at_call 71; refine hI1.mono ?_; rintro e wx ⟨rfl, rfl⟩; have tk1 : True := trivial))
                  go_ret
                  exact ⟨by rw [HE.out]; rfl, Kept.trans HK0.out HKA.out⟩
              · have hI1 := l1InS_no v 0 12 (wr.alloc (.cells #[.int .i64 n, .int .i64 v, .slice xa ss.length xc] 91)) (by omega)
                have HE : Hid (unitR cs ts = false) := by rw [Hid, HC.out, all_no HCc.out (codR_head (fun h => hv h.1))]
                clear hv kw m0 ka n0 n1 hX hc
                go_wp2_with (go_at_call 71; refine hI1.mono ?_; rintro e wx ⟨rfl, rfl⟩)
                go_ret
                exact ⟨by rw [HE.out]; rfl, Kept.trans HK0.out HKA.out⟩
            · have q2 : ¬ (p : Int) < (cs.length : Int) := by omega
              have HE : Hid (unitR cs ts = true) := by rw [Hid, HC.out]; exact all_yes (fun j t hj ht => HM.out j t (by omega) ht)
              have HKW : Hid _ := kw
              clear kw m0
              go_wp2_with fail
              go_ret
              exact ⟨by rw [HE.out]; rfl, HKW.out⟩
    · have hd : (200 : Int) < (ts.length : Int) := by omega
      have HE : Hid (unitR cs ts = false) := by rw [Hid, HC.out, textsR, decide_eq_false h2, Bool.false_and, Bool.false_and]
      clear hA hB hh y0 h2 hss
      go_enter Tryz.func49, Tryz.ntmps49
      go_wp2_with (go_at_call 71; refine hI.mono ?_; rintro e wx ⟨rfl, rfl⟩)
      go_ret
      exact ⟨by rw [HE.out]; rfl, k0⟩
  · have HE : Hid (unitR cs ts = false) := by rw [Hid, HC.out, decide_eq_false hh, Bool.false_and]
    have hI := l1InS_no (cs.length : Int) 1 40 (w.alloc (.cells #[.slice ca cs.length cc, .slice ta ts.length tc] 38)) (by omega)
    clear hA hB hh y0 hss
    go_enter Tryz.func49, Tryz.ntmps49
    go_wp2_with (go_at_call 71; refine hI.mono ?_; rintro e wx ⟨rfl, rfl⟩)
    go_ret
    exact ⟨by rw [HE.out]; rfl, k0⟩
end Go.Proofs.YtgempjjnfpmndaaGreatDoor
