/-
  spec.l15Step exactly, op by op (chapter 15).
-/
import Derived.Test.YtjagnmajnlcahaaDoorUntP
import Derived.Test.YtjagnmajnlcahaaDoorUntI
namespace Go.Proofs.YtjagnmajnlcahaaDoor
open Go.RowKit
set_option linter.unusedSimpArgs false
set_option linter.unusedVariables false
set_option maxHeartbeats 4000000 in
set_option maxRecDepth 100000 in
theorem l15Step_20 (w : World) (ca ta xa : Option Addr) (cc tc xc nc nt ns : Nat) (n v : Int) (hnc : nc ≤ 1048576) (hnt : nt ≤ 1048576) (hns : ns ≤ 1048576) (x y : Int) :
    Calls Tryd.prog 16 #[.agg #[.slice ca nc cc, .slice ta nt tc], .agg #[.int .i64 n, .int .i64 v, .slice xa ns xc], .agg #[.int .i64 20, .int .i64 x, .int .i64 y]] w fun e w' => e = .returned (.bool (stpR (20, x, y) nt nc ns)) ∧ Kept w w' := by
  have k0 : Kept w (((w.alloc (.cells #[.slice ca nc cc, .slice ta nt tc] 30)).alloc (.cells #[.int .i64 n, .int .i64 v, .slice xa ns xc] 45)).alloc (.cells #[.int .i64 20, .int .i64 x, .int .i64 y] 37)) := ((Kept.alloc (Below.refl _ _) _).alloc _).alloc _
  have k1 := k0.drew
  have HS : Hid (stpR (20, x, y) nt nc ns = (decide (0 ≤ x ∧ x ≤ ((ns : Int) - 1)) && decide (0 ≤ y ∧ y ≤ 0))) := by rw [Hid, stpR]; rfl
  have HI : Hid (∀ u, Calls Tryd.prog 15 #[.int .i64 x, .int .i64 0, .int .i64 ((ns : Int) - 1)] u fun e w' => e = .returned (.bool (decide (0 ≤ x ∧ x ≤ ((ns : Int) - 1)))) ∧ w' = u) := fun u => l1InS x 0 ((ns : Int) - 1) u
  have HY : Hid (decide (0 ≤ y ∧ y ≤ 0) = (y == 0)) := by
    rw [Hid]
    by_cases hy : y = 0
    · subst hy; decide
    · rw [decide_eq_false (by omega)]; simpa using hy
  rw [HY.out] at HS
  by_cases h1 : 0 ≤ x ∧ x ≤ ((ns : Int) - 1)
  · have HE : Hid (stpR (20, x, y) nt nc ns = (y == 0)) := by rw [Hid, HS.out, decide_eq_true h1, Bool.true_and]
    rw [decide_eq_true h1] at HI
    clear h1
    go_enter Tryd.func16, Tryd.ntmps16
    go_wp2_with fail
    go_region
    all_goals (
      go_wp2_with (go_at_call 15; refine (HI.out _).mono ?_; rintro e wx ⟨rfl, rfl⟩)
      go_ret
      exact ⟨by rw [HE.out]; rfl, k1⟩)
  · have HE : Hid (stpR (20, x, y) nt nc ns = false) := by rw [Hid, HS.out, decide_eq_false h1, Bool.false_and]
    rw [decide_eq_false h1] at HI
    clear h1
    go_enter Tryd.func16, Tryd.ntmps16
    go_wp2_with fail
    go_region
    all_goals (
      go_wp2_with (go_at_call 15; refine (HI.out _).mono ?_; rintro e wx ⟨rfl, rfl⟩)
      go_ret
      exact ⟨by rw [HE.out]; rfl, k1⟩)
set_option maxHeartbeats 4000000 in
set_option maxRecDepth 100000 in
theorem l15Step_21 (w : World) (ca ta xa : Option Addr) (cc tc xc nc nt ns : Nat) (n v : Int) (hnc : nc ≤ 1048576) (hnt : nt ≤ 1048576) (hns : ns ≤ 1048576) (x y : Int) :
    Calls Tryd.prog 16 #[.agg #[.slice ca nc cc, .slice ta nt tc], .agg #[.int .i64 n, .int .i64 v, .slice xa ns xc], .agg #[.int .i64 21, .int .i64 x, .int .i64 y]] w fun e w' => e = .returned (.bool (stpR (21, x, y) nt nc ns)) ∧ Kept w w' := by
  have k0 : Kept w (((w.alloc (.cells #[.slice ca nc cc, .slice ta nt tc] 30)).alloc (.cells #[.int .i64 n, .int .i64 v, .slice xa ns xc] 45)).alloc (.cells #[.int .i64 21, .int .i64 x, .int .i64 y] 37)) := ((Kept.alloc (Below.refl _ _) _).alloc _).alloc _
  have k1 := k0.drew
  have HS : Hid (stpR (21, x, y) nt nc ns = (decide (0 ≤ x ∧ x ≤ ((ns : Int) - 1)) && decide (0 ≤ y ∧ y ≤ 0))) := by rw [Hid, stpR]; rfl
  have HI : Hid (∀ u, Calls Tryd.prog 15 #[.int .i64 x, .int .i64 0, .int .i64 ((ns : Int) - 1)] u fun e w' => e = .returned (.bool (decide (0 ≤ x ∧ x ≤ ((ns : Int) - 1)))) ∧ w' = u) := fun u => l1InS x 0 ((ns : Int) - 1) u
  have HY : Hid (decide (0 ≤ y ∧ y ≤ 0) = (y == 0)) := by
    rw [Hid]
    by_cases hy : y = 0
    · subst hy; decide
    · rw [decide_eq_false (by omega)]; simpa using hy
  rw [HY.out] at HS
  by_cases h1 : 0 ≤ x ∧ x ≤ ((ns : Int) - 1)
  · have HE : Hid (stpR (21, x, y) nt nc ns = (y == 0)) := by rw [Hid, HS.out, decide_eq_true h1, Bool.true_and]
    rw [decide_eq_true h1] at HI
    clear h1
    go_enter Tryd.func16, Tryd.ntmps16
    go_wp2_with fail
    go_region
    all_goals (
      go_wp2_with (go_at_call 15; refine (HI.out _).mono ?_; rintro e wx ⟨rfl, rfl⟩)
      go_ret
      exact ⟨by rw [HE.out]; rfl, k1⟩)
  · have HE : Hid (stpR (21, x, y) nt nc ns = false) := by rw [Hid, HS.out, decide_eq_false h1, Bool.false_and]
    rw [decide_eq_false h1] at HI
    clear h1
    go_enter Tryd.func16, Tryd.ntmps16
    go_wp2_with fail
    go_region
    all_goals (
      go_wp2_with (go_at_call 15; refine (HI.out _).mono ?_; rintro e wx ⟨rfl, rfl⟩)
      go_ret
      exact ⟨by rw [HE.out]; rfl, k1⟩)
set_option maxHeartbeats 4000000 in
set_option maxRecDepth 100000 in
theorem l15Step_24 (w : World) (ca ta xa : Option Addr) (cc tc xc nc nt ns : Nat) (n v : Int) (hnc : nc ≤ 1048576) (hnt : nt ≤ 1048576) (hns : ns ≤ 1048576) (x y : Int) :
    Calls Tryd.prog 16 #[.agg #[.slice ca nc cc, .slice ta nt tc], .agg #[.int .i64 n, .int .i64 v, .slice xa ns xc], .agg #[.int .i64 24, .int .i64 x, .int .i64 y]] w fun e w' => e = .returned (.bool (stpR (24, x, y) nt nc ns)) ∧ Kept w w' := by
  have k0 : Kept w (((w.alloc (.cells #[.slice ca nc cc, .slice ta nt tc] 30)).alloc (.cells #[.int .i64 n, .int .i64 v, .slice xa ns xc] 45)).alloc (.cells #[.int .i64 24, .int .i64 x, .int .i64 y] 37)) := ((Kept.alloc (Below.refl _ _) _).alloc _).alloc _
  have k1 := k0.drew
  have HS : Hid (stpR (24, x, y) nt nc ns = (decide (0 ≤ x ∧ x ≤ ((nc : Int) - 1)) && decide (0 ≤ y ∧ y ≤ 0))) := by rw [Hid, stpR]; rfl
  have HI : Hid (∀ u, Calls Tryd.prog 15 #[.int .i64 x, .int .i64 0, .int .i64 ((nc : Int) - 1)] u fun e w' => e = .returned (.bool (decide (0 ≤ x ∧ x ≤ ((nc : Int) - 1)))) ∧ w' = u) := fun u => l1InS x 0 ((nc : Int) - 1) u
  have HY : Hid (decide (0 ≤ y ∧ y ≤ 0) = (y == 0)) := by
    rw [Hid]
    by_cases hy : y = 0
    · subst hy; decide
    · rw [decide_eq_false (by omega)]; simpa using hy
  rw [HY.out] at HS
  by_cases h1 : 0 ≤ x ∧ x ≤ ((nc : Int) - 1)
  · have HE : Hid (stpR (24, x, y) nt nc ns = (y == 0)) := by rw [Hid, HS.out, decide_eq_true h1, Bool.true_and]
    rw [decide_eq_true h1] at HI
    clear h1
    go_enter Tryd.func16, Tryd.ntmps16
    go_wp2_with fail
    go_region
    all_goals (
      go_wp2_with (go_at_call 15; refine (HI.out _).mono ?_; rintro e wx ⟨rfl, rfl⟩)
      go_ret
      exact ⟨by rw [HE.out]; rfl, k1⟩)
  · have HE : Hid (stpR (24, x, y) nt nc ns = false) := by rw [Hid, HS.out, decide_eq_false h1, Bool.false_and]
    rw [decide_eq_false h1] at HI
    clear h1
    go_enter Tryd.func16, Tryd.ntmps16
    go_wp2_with fail
    go_region
    all_goals (
      go_wp2_with (go_at_call 15; refine (HI.out _).mono ?_; rintro e wx ⟨rfl, rfl⟩)
      go_ret
      exact ⟨by rw [HE.out]; rfl, k1⟩)
set_option maxHeartbeats 4000000 in
set_option maxRecDepth 100000 in
theorem l15Step_7 (w : World) (ca ta xa : Option Addr) (cc tc xc nc nt ns : Nat) (n v : Int) (hnc : nc ≤ 1048576) (hnt : nt ≤ 1048576) (hns : ns ≤ 1048576) (x y : Int) :
    Calls Tryd.prog 16 #[.agg #[.slice ca nc cc, .slice ta nt tc], .agg #[.int .i64 n, .int .i64 v, .slice xa ns xc], .agg #[.int .i64 7, .int .i64 x, .int .i64 y]] w fun e w' => e = .returned (.bool (stpR (7, x, y) nt nc ns)) ∧ Kept w w' := by
  have k0 : Kept w (((w.alloc (.cells #[.slice ca nc cc, .slice ta nt tc] 30)).alloc (.cells #[.int .i64 n, .int .i64 v, .slice xa ns xc] 45)).alloc (.cells #[.int .i64 7, .int .i64 x, .int .i64 y] 37)) := ((Kept.alloc (Below.refl _ _) _).alloc _).alloc _
  have k1 := k0.drew
  have HS : Hid (stpR (7, x, y) nt nc ns = (decide (0 ≤ x ∧ x ≤ 40) && decide (0 ≤ y ∧ y ≤ 11))) := by rw [Hid, stpR]; rfl
  have HI : Hid (∀ u, Calls Tryd.prog 15 #[.int .i64 x, .int .i64 0, .int .i64 40] u fun e w' => e = .returned (.bool (decide (0 ≤ x ∧ x ≤ 40))) ∧ w' = u) := fun u => l1InS x 0 40 u
  have HJ : Hid (∀ u, Calls Tryd.prog 15 #[.int .i64 y, .int .i64 0, .int .i64 11] u fun e w' => e = .returned (.bool (decide (0 ≤ y ∧ y ≤ 11))) ∧ w' = u) := fun u => l1InS y 0 11 u
  obtain ⟨q, hq⟩ : ∃ q, decide (0 ≤ y ∧ y ≤ 11) = q := ⟨_, rfl⟩
  rw [hq] at HJ HS
  clear hq
  by_cases h1 : 0 ≤ x ∧ x ≤ 40
  · have HE : Hid (stpR (7, x, y) nt nc ns = q) := by rw [Hid, HS.out, decide_eq_true h1, Bool.true_and]
    rw [decide_eq_true h1] at HI
    clear h1
    go_enter Tryd.func16, Tryd.ntmps16
    go_wp2_with fail
    go_region
    all_goals (
      go_wp2_with (first | (have _tk := tk1; go_at_call 15; refine (HJ.out _).mono ?_; rintro e wx ⟨rfl, rfl⟩) | (go_at_call 15; refine (HI.out _).mono ?_; rintro e wx ⟨rfl, rfl⟩; have tk1 : True := trivial))
      go_ret
      exact ⟨by rw [HE.out]; rfl, k1⟩)
  · have HE : Hid (stpR (7, x, y) nt nc ns = false) := by rw [Hid, HS.out, decide_eq_false h1, Bool.false_and]
    rw [decide_eq_false h1] at HI
    clear h1
    go_enter Tryd.func16, Tryd.ntmps16
    go_wp2_with fail
    go_region
    all_goals (
      go_wp2_with (go_at_call 15; refine (HI.out _).mono ?_; rintro e wx ⟨rfl, rfl⟩)
      go_ret
      exact ⟨by rw [HE.out]; rfl, k1⟩)
set_option maxHeartbeats 4000000 in
set_option maxRecDepth 100000 in
theorem l15Step_8 (w : World) (ca ta xa : Option Addr) (cc tc xc nc nt ns : Nat) (n v : Int) (hnc : nc ≤ 1048576) (hnt : nt ≤ 1048576) (hns : ns ≤ 1048576) (x y : Int) :
    Calls Tryd.prog 16 #[.agg #[.slice ca nc cc, .slice ta nt tc], .agg #[.int .i64 n, .int .i64 v, .slice xa ns xc], .agg #[.int .i64 8, .int .i64 x, .int .i64 y]] w fun e w' => e = .returned (.bool (stpR (8, x, y) nt nc ns)) ∧ Kept w w' := by
  have k0 : Kept w (((w.alloc (.cells #[.slice ca nc cc, .slice ta nt tc] 30)).alloc (.cells #[.int .i64 n, .int .i64 v, .slice xa ns xc] 45)).alloc (.cells #[.int .i64 8, .int .i64 x, .int .i64 y] 37)) := ((Kept.alloc (Below.refl _ _) _).alloc _).alloc _
  have k1 := k0.drew
  have HS : Hid (stpR (8, x, y) nt nc ns = (decide (0 ≤ x ∧ x ≤ 40) && decide (0 ≤ y ∧ y ≤ 11))) := by rw [Hid, stpR]; rfl
  have HI : Hid (∀ u, Calls Tryd.prog 15 #[.int .i64 x, .int .i64 0, .int .i64 40] u fun e w' => e = .returned (.bool (decide (0 ≤ x ∧ x ≤ 40))) ∧ w' = u) := fun u => l1InS x 0 40 u
  have HJ : Hid (∀ u, Calls Tryd.prog 15 #[.int .i64 y, .int .i64 0, .int .i64 11] u fun e w' => e = .returned (.bool (decide (0 ≤ y ∧ y ≤ 11))) ∧ w' = u) := fun u => l1InS y 0 11 u
  obtain ⟨q, hq⟩ : ∃ q, decide (0 ≤ y ∧ y ≤ 11) = q := ⟨_, rfl⟩
  rw [hq] at HJ HS
  clear hq
  by_cases h1 : 0 ≤ x ∧ x ≤ 40
  · have HE : Hid (stpR (8, x, y) nt nc ns = q) := by rw [Hid, HS.out, decide_eq_true h1, Bool.true_and]
    rw [decide_eq_true h1] at HI
    clear h1
    go_enter Tryd.func16, Tryd.ntmps16
    go_wp2_with fail
    go_region
    all_goals (
      go_wp2_with (first | (have _tk := tk1; go_at_call 15; refine (HJ.out _).mono ?_; rintro e wx ⟨rfl, rfl⟩) | (go_at_call 15; refine (HI.out _).mono ?_; rintro e wx ⟨rfl, rfl⟩; have tk1 : True := trivial))
      go_ret
      exact ⟨by rw [HE.out]; rfl, k1⟩)
  · have HE : Hid (stpR (8, x, y) nt nc ns = false) := by rw [Hid, HS.out, decide_eq_false h1, Bool.false_and]
    rw [decide_eq_false h1] at HI
    clear h1
    go_enter Tryd.func16, Tryd.ntmps16
    go_wp2_with fail
    go_region
    all_goals (
      go_wp2_with (go_at_call 15; refine (HI.out _).mono ?_; rintro e wx ⟨rfl, rfl⟩)
      go_ret
      exact ⟨by rw [HE.out]; rfl, k1⟩)
end Go.Proofs.YtjagnmajnlcahaaDoor
