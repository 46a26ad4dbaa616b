/-
  spec.l15Step exactly, op by op (chapter 15).
-/
import Derived.Test.YtjagnmajnlcahaaDoorUntP
import Derived.Test.YtjagnmajnlcahaaDoorUntI
namespace Go.Proofs.YtjagnmajnlcahaaDoor
open Go.RowKit
set_option linter.unusedSimpArgs false
set_option linter.unusedVariables false
set_option maxHeartbeats 4000000 in
set_option maxRecDepth 100000 in
theorem l15Step_1 (w : World) (ca ta xa : Option Addr) (cc tc xc nc nt ns : Nat) (n v : Int) (hnc : nc ≤ 1048576) (hnt : nt ≤ 1048576) (hns : ns ≤ 1048576) (x y : Int) :
    Calls Tryd.prog 16 #[.agg #[.slice ca nc cc, .slice ta nt tc], .agg #[.int .i64 n, .int .i64 v, .slice xa ns xc], .agg #[.int .i64 1, .int .i64 x, .int .i64 y]] w fun e w' => e = .returned (.bool (stpR (1, x, y) nt nc ns)) ∧ Kept w w' := by
  have k0 : Kept w (((w.alloc (.cells #[.slice ca nc cc, .slice ta nt tc] 30)).alloc (.cells #[.int .i64 n, .int .i64 v, .slice xa ns xc] 45)).alloc (.cells #[.int .i64 1, .int .i64 x, .int .i64 y] 37)) := ((Kept.alloc (Below.refl _ _) _).alloc _).alloc _
  have k1 := k0.drew
  have HS : Hid (stpR (1, x, y) nt nc ns = (decide ((-2147483648) ≤ x ∧ x ≤ 2147483647) && decide (0 ≤ y ∧ y ≤ 0))) := by rw [Hid, stpR]; rfl
  have HI : Hid (∀ u, Calls Tryd.prog 15 #[.int .i64 x, .int .i64 (-2147483648), .int .i64 2147483647] u fun e w' => e = .returned (.bool (decide ((-2147483648) ≤ x ∧ x ≤ 2147483647))) ∧ w' = u) := fun u => l1InS x (-2147483648) 2147483647 u
  have HY : Hid (decide (0 ≤ y ∧ y ≤ 0) = (y == 0)) := by
    rw [Hid]
    by_cases hy : y = 0
    · subst hy; decide
    · rw [decide_eq_false (by omega)]; simpa using hy
  rw [HY.out] at HS
  by_cases h1 : (-2147483648) ≤ x ∧ x ≤ 2147483647
  · have HE : Hid (stpR (1, x, y) nt nc ns = (y == 0)) := by rw [Hid, HS.out, decide_eq_true h1, Bool.true_and]
    rw [decide_eq_true h1] at HI
    clear h1
    go_enter Tryd.func16, Tryd.ntmps16
    go_wp2_with fail
    go_region
    all_goals (
      go_wp2_with (go_at_call 15; refine (HI.out _).mono ?_; rintro e wx ⟨rfl, rfl⟩)
      go_ret
      exact ⟨by rw [HE.out]; rfl, k1⟩)
  · have HE : Hid (stpR (1, x, y) nt nc ns = false) := by rw [Hid, HS.out, decide_eq_false h1, Bool.false_and]
    rw [decide_eq_false h1] at HI
    clear h1
    go_enter Tryd.func16, Tryd.ntmps16
    go_wp2_with fail
    go_region
    all_goals (
      go_wp2_with (go_at_call 15; refine (HI.out _).mono ?_; rintro e wx ⟨rfl, rfl⟩)
      go_ret
      exact ⟨by rw [HE.out]; rfl, k1⟩)
set_option maxHeartbeats 4000000 in
set_option maxRecDepth 100000 in
theorem l15Step_2 (w : World) (ca ta xa : Option Addr) (cc tc xc nc nt ns : Nat) (n v : Int) (hnc : nc ≤ 1048576) (hnt : nt ≤ 1048576) (hns : ns ≤ 1048576) (x y : Int) :
    Calls Tryd.prog 16 #[.agg #[.slice ca nc cc, .slice ta nt tc], .agg #[.int .i64 n, .int .i64 v, .slice xa ns xc], .agg #[.int .i64 2, .int .i64 x, .int .i64 y]] w fun e w' => e = .returned (.bool (stpR (2, x, y) nt nc ns)) ∧ Kept w w' := by
  have k0 : Kept w (((w.alloc (.cells #[.slice ca nc cc, .slice ta nt tc] 30)).alloc (.cells #[.int .i64 n, .int .i64 v, .slice xa ns xc] 45)).alloc (.cells #[.int .i64 2, .int .i64 x, .int .i64 y] 37)) := ((Kept.alloc (Below.refl _ _) _).alloc _).alloc _
  have k1 := k0.drew
  have HS : Hid (stpR (2, x, y) nt nc ns = (decide (0 ≤ x ∧ x ≤ ((nt : Int) - 1)) && decide (0 ≤ y ∧ y ≤ 0))) := by rw [Hid, stpR]; rfl
  have HI : Hid (∀ u, Calls Tryd.prog 15 #[.int .i64 x, .int .i64 0, .int .i64 ((nt : Int) - 1)] u fun e w' => e = .returned (.bool (decide (0 ≤ x ∧ x ≤ ((nt : Int) - 1)))) ∧ w' = u) := fun u => l1InS x 0 ((nt : Int) - 1) u
  have HY : Hid (decide (0 ≤ y ∧ y ≤ 0) = (y == 0)) := by
    rw [Hid]
    by_cases hy : y = 0
    · subst hy; decide
    · rw [decide_eq_false (by omega)]; simpa using hy
  rw [HY.out] at HS
  by_cases h1 : 0 ≤ x ∧ x ≤ ((nt : Int) - 1)
  · have HE : Hid (stpR (2, x, y) nt nc ns = (y == 0)) := by rw [Hid, HS.out, decide_eq_true h1, Bool.true_and]
    rw [decide_eq_true h1] at HI
    clear h1
    go_enter Tryd.func16, Tryd.ntmps16
    go_wp2_with fail
    go_region
    all_goals (
      go_wp2_with (go_at_call 15; refine (HI.out _).mono ?_; rintro e wx ⟨rfl, rfl⟩)
      go_ret
      exact ⟨by rw [HE.out]; rfl, k1⟩)
  · have HE : Hid (stpR (2, x, y) nt nc ns = false) := by rw [Hid, HS.out, decide_eq_false h1, Bool.false_and]
    rw [decide_eq_false h1] at HI
    clear h1
    go_enter Tryd.func16, Tryd.ntmps16
    go_wp2_with fail
    go_region
    all_goals (
      go_wp2_with (go_at_call 15; refine (HI.out _).mono ?_; rintro e wx ⟨rfl, rfl⟩)
      go_ret
      exact ⟨by rw [HE.out]; rfl, k1⟩)
set_option maxHeartbeats 4000000 in
set_option maxRecDepth 100000 in
theorem l15Step_9 (w : World) (ca ta xa : Option Addr) (cc tc xc nc nt ns : Nat) (n v : Int) (hnc : nc ≤ 1048576) (hnt : nt ≤ 1048576) (hns : ns ≤ 1048576) (x y : Int) :
    Calls Tryd.prog 16 #[.agg #[.slice ca nc cc, .slice ta nt tc], .agg #[.int .i64 n, .int .i64 v, .slice xa ns xc], .agg #[.int .i64 9, .int .i64 x, .int .i64 y]] w fun e w' => e = .returned (.bool (stpR (9, x, y) nt nc ns)) ∧ Kept w w' := by
  have k0 : Kept w (((w.alloc (.cells #[.slice ca nc cc, .slice ta nt tc] 30)).alloc (.cells #[.int .i64 n, .int .i64 v, .slice xa ns xc] 45)).alloc (.cells #[.int .i64 9, .int .i64 x, .int .i64 y] 37)) := ((Kept.alloc (Below.refl _ _) _).alloc _).alloc _
  have k1 := k0.drew
  have HS : Hid (stpR (9, x, y) nt nc ns = (decide (0 ≤ x ∧ x ≤ ((nt : Int) - 1)) && decide (0 ≤ y ∧ y ≤ 0))) := by rw [Hid, stpR]; rfl
  have HI : Hid (∀ u, Calls Tryd.prog 15 #[.int .i64 x, .int .i64 0, .int .i64 ((nt : Int) - 1)] u fun e w' => e = .returned (.bool (decide (0 ≤ x ∧ x ≤ ((nt : Int) - 1)))) ∧ w' = u) := fun u => l1InS x 0 ((nt : Int) - 1) u
  have HY : Hid (decide (0 ≤ y ∧ y ≤ 0) = (y == 0)) := by
    rw [Hid]
    by_cases hy : y = 0
    · subst hy; decide
    · rw [decide_eq_false (by omega)]; simpa using hy
  rw [HY.out] at HS
  by_cases h1 : 0 ≤ x ∧ x ≤ ((nt : Int) - 1)
  · have HE : Hid (stpR (9, x, y) nt nc ns = (y == 0)) := by rw [Hid, HS.out, decide_eq_true h1, Bool.true_and]
    rw [decide_eq_true h1] at HI
    clear h1
    go_enter Tryd.func16, Tryd.ntmps16
    go_wp2_with fail
    go_region
    all_goals (
      go_wp2_with (go_at_call 15; refine (HI.out _).mono ?_; rintro e wx ⟨rfl, rfl⟩)
      go_ret
      exact ⟨by rw [HE.out]; rfl, k1⟩)
  · have HE : Hid (stpR (9, x, y) nt nc ns = false) := by rw [Hid, HS.out, decide_eq_false h1, Bool.false_and]
    rw [decide_eq_false h1] at HI
    clear h1
    go_enter Tryd.func16, Tryd.ntmps16
    go_wp2_with fail
    go_region
    all_goals (
      go_wp2_with (go_at_call 15; refine (HI.out _).mono ?_; rintro e wx ⟨rfl, rfl⟩)
      go_ret
      exact ⟨by rw [HE.out]; rfl, k1⟩)
set_option maxHeartbeats 4000000 in
set_option maxRecDepth 100000 in
theorem l15Step_10 (w : World) (ca ta xa : Option Addr) (cc tc xc nc nt ns : Nat) (n v : Int) (hnc : nc ≤ 1048576) (hnt : nt ≤ 1048576) (hns : ns ≤ 1048576) (x y : Int) :
    Calls Tryd.prog 16 #[.agg #[.slice ca nc cc, .slice ta nt tc], .agg #[.int .i64 n, .int .i64 v, .slice xa ns xc], .agg #[.int .i64 10, .int .i64 x, .int .i64 y]] w fun e w' => e = .returned (.bool (stpR (10, x, y) nt nc ns)) ∧ Kept w w' := by
  have k0 : Kept w (((w.alloc (.cells #[.slice ca nc cc, .slice ta nt tc] 30)).alloc (.cells #[.int .i64 n, .int .i64 v, .slice xa ns xc] 45)).alloc (.cells #[.int .i64 10, .int .i64 x, .int .i64 y] 37)) := ((Kept.alloc (Below.refl _ _) _).alloc _).alloc _
  have k1 := k0.drew
  have HS : Hid (stpR (10, x, y) nt nc ns = (decide (0 ≤ x ∧ x ≤ ((nt : Int) - 1)) && decide (0 ≤ y ∧ y ≤ 0))) := by rw [Hid, stpR]; rfl
  have HI : Hid (∀ u, Calls Tryd.prog 15 #[.int .i64 x, .int .i64 0, .int .i64 ((nt : Int) - 1)] u fun e w' => e = .returned (.bool (decide (0 ≤ x ∧ x ≤ ((nt : Int) - 1)))) ∧ w' = u) := fun u => l1InS x 0 ((nt : Int) - 1) u
  have HY : Hid (decide (0 ≤ y ∧ y ≤ 0) = (y == 0)) := by
    rw [Hid]
    by_cases hy : y = 0
    · subst hy; decide
    · rw [decide_eq_false (by omega)]; simpa using hy
  rw [HY.out] at HS
  by_cases h1 : 0 ≤ x ∧ x ≤ ((nt : Int) - 1)
  · have HE : Hid (stpR (10, x, y) nt nc ns = (y == 0)) := by rw [Hid, HS.out, decide_eq_true h1, Bool.true_and]
    rw [decide_eq_true h1] at HI
    clear h1
    go_enter Tryd.func16, Tryd.ntmps16
    go_wp2_with fail
    go_region
    all_goals (
      go_wp2_with (go_at_call 15; refine (HI.out _).mono ?_; rintro e wx ⟨rfl, rfl⟩)
      go_ret
      exact ⟨by rw [HE.out]; rfl, k1⟩)
  · have HE : Hid (stpR (10, x, y) nt nc ns = false) := by rw [Hid, HS.out, decide_eq_false h1, Bool.false_and]
    rw [decide_eq_false h1] at HI
    clear h1
    go_enter Tryd.func16, Tryd.ntmps16
    go_wp2_with fail
    go_region
    all_goals (
      go_wp2_with (go_at_call 15; refine (HI.out _).mono ?_; rintro e wx ⟨rfl, rfl⟩)
      go_ret
      exact ⟨by rw [HE.out]; rfl, k1⟩)
set_option maxHeartbeats 4000000 in
set_option maxRecDepth 100000 in
theorem l15Step_25 (w : World) (ca ta xa : Option Addr) (cc tc xc nc nt ns : Nat) (n v : Int) (hnc : nc ≤ 1048576) (hnt : nt ≤ 1048576) (hns : ns ≤ 1048576) (x y : Int) :
    Calls Tryd.prog 16 #[.agg #[.slice ca nc cc, .slice ta nt tc], .agg #[.int .i64 n, .int .i64 v, .slice xa ns xc], .agg #[.int .i64 25, .int .i64 x, .int .i64 y]] w fun e w' => e = .returned (.bool (stpR (25, x, y) nt nc ns)) ∧ Kept w w' := by
  have k0 : Kept w (((w.alloc (.cells #[.slice ca nc cc, .slice ta nt tc] 30)).alloc (.cells #[.int .i64 n, .int .i64 v, .slice xa ns xc] 45)).alloc (.cells #[.int .i64 25, .int .i64 x, .int .i64 y] 37)) := ((Kept.alloc (Below.refl _ _) _).alloc _).alloc _
  have k1 := k0.drew
  have HS : Hid (stpR (25, x, y) nt nc ns = (decide (0 ≤ x ∧ x ≤ ((nt : Int) - 1)) && decide (0 ≤ y ∧ y ≤ 0))) := by rw [Hid, stpR]; rfl
  have HI : Hid (∀ u, Calls Tryd.prog 15 #[.int .i64 x, .int .i64 0, .int .i64 ((nt : Int) - 1)] u fun e w' => e = .returned (.bool (decide (0 ≤ x ∧ x ≤ ((nt : Int) - 1)))) ∧ w' = u) := fun u => l1InS x 0 ((nt : Int) - 1) u
  have HY : Hid (decide (0 ≤ y ∧ y ≤ 0) = (y == 0)) := by
    rw [Hid]
    by_cases hy : y = 0
    · subst hy; decide
    · rw [decide_eq_false (by omega)]; simpa using hy
  rw [HY.out] at HS
  by_cases h1 : 0 ≤ x ∧ x ≤ ((nt : Int) - 1)
  · have HE : Hid (stpR (25, x, y) nt nc ns = (y == 0)) := by rw [Hid, HS.out, decide_eq_true h1, Bool.true_and]
    rw [decide_eq_true h1] at HI
    clear h1
    go_enter Tryd.func16, Tryd.ntmps16
    go_wp2_with fail
    go_region
    all_goals (
      go_wp2_with (go_at_call 15; refine (HI.out _).mono ?_; rintro e wx ⟨rfl, rfl⟩)
      go_ret
      exact ⟨by rw [HE.out]; rfl, k1⟩)
  · have HE : Hid (stpR (25, x, y) nt nc ns = false) := by rw [Hid, HS.out, decide_eq_false h1, Bool.false_and]
    rw [decide_eq_false h1] at HI
    clear h1
    go_enter Tryd.func16, Tryd.ntmps16
    go_wp2_with fail
    go_region
    all_goals (
      go_wp2_with (go_at_call 15; refine (HI.out _).mono ?_; rintro e wx ⟨rfl, rfl⟩)
      go_ret
      exact ⟨by rw [HE.out]; rfl, k1⟩)
set_option maxHeartbeats 4000000 in
set_option maxRecDepth 100000 in
theorem l15Step_12 (w : World) (ca ta xa : Option Addr) (cc tc xc nc nt ns : Nat) (n v : Int) (hnc : nc ≤ 1048576) (hnt : nt ≤ 1048576) (hns : ns ≤ 1048576) (x y : Int) :
    Calls Tryd.prog 16 #[.agg #[.slice ca nc cc, .slice ta nt tc], .agg #[.int .i64 n, .int .i64 v, .slice xa ns xc], .agg #[.int .i64 12, .int .i64 x, .int .i64 y]] w fun e w' => e = .returned (.bool (stpR (12, x, y) nt nc ns)) ∧ Kept w w' := by
  have k0 : Kept w (((w.alloc (.cells #[.slice ca nc cc, .slice ta nt tc] 30)).alloc (.cells #[.int .i64 n, .int .i64 v, .slice xa ns xc] 45)).alloc (.cells #[.int .i64 12, .int .i64 x, .int .i64 y] 37)) := ((Kept.alloc (Below.refl _ _) _).alloc _).alloc _
  have k1 := k0.drew
  have HS : Hid (stpR (12, x, y) nt nc ns = (decide (0 ≤ x ∧ x ≤ 200) && decide (0 ≤ y ∧ y ≤ 0))) := by rw [Hid, stpR]; rfl
  have HI : Hid (∀ u, Calls Tryd.prog 15 #[.int .i64 x, .int .i64 0, .int .i64 200] u fun e w' => e = .returned (.bool (decide (0 ≤ x ∧ x ≤ 200))) ∧ w' = u) := fun u => l1InS x 0 200 u
  have HY : Hid (decide (0 ≤ y ∧ y ≤ 0) = (y == 0)) := by
    rw [Hid]
    by_cases hy : y = 0
    · subst hy; decide
    · rw [decide_eq_false (by omega)]; simpa using hy
  rw [HY.out] at HS
  by_cases h1 : 0 ≤ x ∧ x ≤ 200
  · have HE : Hid (stpR (12, x, y) nt nc ns = (y == 0)) := by rw [Hid, HS.out, decide_eq_true h1, Bool.true_and]
    rw [decide_eq_true h1] at HI
    clear h1
    go_enter Tryd.func16, Tryd.ntmps16
    go_wp2_with fail
    go_region
    all_goals (
      go_wp2_with (go_at_call 15; refine (HI.out _).mono ?_; rintro e wx ⟨rfl, rfl⟩)
      go_ret
      exact ⟨by rw [HE.out]; rfl, k1⟩)
  · have HE : Hid (stpR (12, x, y) nt nc ns = false) := by rw [Hid, HS.out, decide_eq_false h1, Bool.false_and]
    rw [decide_eq_false h1] at HI
    clear h1
    go_enter Tryd.func16, Tryd.ntmps16
    go_wp2_with fail
    go_region
    all_goals (
      go_wp2_with (go_at_call 15; refine (HI.out _).mono ?_; rintro e wx ⟨rfl, rfl⟩)
      go_ret
      exact ⟨by rw [HE.out]; rfl, k1⟩)
end Go.Proofs.YtjagnmajnlcahaaDoor
