/-
  spec.l15Step exactly, op by op (chapter 15).
-/
import Derived.Test.YtjagnmajnlcahaaDoorUntP
import Derived.Test.YtjagnmajnlcahaaDoorUntI
namespace Go.Proofs.YtjagnmajnlcahaaDoor
open Go.RowKit
set_option linter.unusedSimpArgs false
set_option linter.unusedVariables false
set_option maxHeartbeats 4000000 in
set_option maxRecDepth 100000 in
theorem l15Step_3 (w : World) (ca ta xa : Option Addr) (cc tc xc nc nt ns : Nat) (n v : Int) (hnc : nc ≤ 1048576) (hnt : nt ≤ 1048576) (hns : ns ≤ 1048576) (x y : Int) :
    Calls Tryd.prog 16 #[.agg #[.slice ca nc cc, .slice ta nt tc], .agg #[.int .i64 n, .int .i64 v, .slice xa ns xc], .agg #[.int .i64 3, .int .i64 x, .int .i64 y]] w fun e w' => e = .returned (.bool (stpR (3, x, y) nt nc ns)) ∧ Kept w w' := by
  have k0 : Kept w (((w.alloc (.cells #[.slice ca nc cc, .slice ta nt tc] 30)).alloc (.cells #[.int .i64 n, .int .i64 v, .slice xa ns xc] 45)).alloc (.cells #[.int .i64 3, .int .i64 x, .int .i64 y] 37)) := ((Kept.alloc (Below.refl _ _) _).alloc _).alloc _
  have k1 := k0.drew
  have HI : Hid (∀ u, Calls Tryd.prog 15 #[.int .i64 3, .int .i64 1, .int .i64 25] u fun e w' => e = .returned (.bool true) ∧ w' = u) := fun u => l1InS_yes 3 1 25 u (by decide) (by decide)
  have HG : Hid (stpR (3, x, y) nt nc ns = ((x == 0) && (y == 0))) := by
    rw [Hid, show stpR (3, x, y) nt nc ns = (decide (0 ≤ x ∧ x ≤ 0) && decide (0 ≤ y ∧ y ≤ 0)) by rw [stpR]; rfl]
    congr 1
    · by_cases hy : x = 0
      · subst hy; decide
      · rw [decide_eq_false (by omega)]; exact Eq.symm (by simpa using hy)
    · by_cases hy : y = 0
      · subst hy; decide
      · rw [decide_eq_false (by omega)]; exact Eq.symm (by simpa using hy)
  by_cases hx : x = 0
  · subst hx
    have HE : Hid (stpR (3, 0, y) nt nc ns = (y == 0)) := by rw [Hid, HG.out]; rfl
    go_enter Tryd.func16, Tryd.ntmps16
    go_wp2_with fail
    go_region
    all_goals (
      go_wp2_with (go_at_call 15; refine (HI.out _).mono ?_; rintro e wx ⟨rfl, rfl⟩)
      go_ret
      exact ⟨by rw [HE.out]; rfl, k1⟩)
  · have hx' : (x == 0) = false := by simpa using hx
    have HE : Hid (stpR (3, x, y) nt nc ns = false) := by rw [Hid, HG.out, hx', Bool.false_and]
    clear hx
    go_enter Tryd.func16, Tryd.ntmps16
    go_wp2_with fail
    go_region
    all_goals (
      go_wp2_with (go_at_call 15; refine (HI.out _).mono ?_; rintro e wx ⟨rfl, rfl⟩)
      go_ret
      exact ⟨by rw [HE.out]; rfl, k1⟩)
set_option maxHeartbeats 4000000 in
set_option maxRecDepth 100000 in
theorem l15Step_4 (w : World) (ca ta xa : Option Addr) (cc tc xc nc nt ns : Nat) (n v : Int) (hnc : nc ≤ 1048576) (hnt : nt ≤ 1048576) (hns : ns ≤ 1048576) (x y : Int) :
    Calls Tryd.prog 16 #[.agg #[.slice ca nc cc, .slice ta nt tc], .agg #[.int .i64 n, .int .i64 v, .slice xa ns xc], .agg #[.int .i64 4, .int .i64 x, .int .i64 y]] w fun e w' => e = .returned (.bool (stpR (4, x, y) nt nc ns)) ∧ Kept w w' := by
  have k0 : Kept w (((w.alloc (.cells #[.slice ca nc cc, .slice ta nt tc] 30)).alloc (.cells #[.int .i64 n, .int .i64 v, .slice xa ns xc] 45)).alloc (.cells #[.int .i64 4, .int .i64 x, .int .i64 y] 37)) := ((Kept.alloc (Below.refl _ _) _).alloc _).alloc _
  have k1 := k0.drew
  have HI : Hid (∀ u, Calls Tryd.prog 15 #[.int .i64 4, .int .i64 1, .int .i64 25] u fun e w' => e = .returned (.bool true) ∧ w' = u) := fun u => l1InS_yes 4 1 25 u (by decide) (by decide)
  have HG : Hid (stpR (4, x, y) nt nc ns = ((x == 0) && (y == 0))) := by
    rw [Hid, show stpR (4, x, y) nt nc ns = (decide (0 ≤ x ∧ x ≤ 0) && decide (0 ≤ y ∧ y ≤ 0)) by rw [stpR]; rfl]
    congr 1
    · by_cases hy : x = 0
      · subst hy; decide
      · rw [decide_eq_false (by omega)]; exact Eq.symm (by simpa using hy)
    · by_cases hy : y = 0
      · subst hy; decide
      · rw [decide_eq_false (by omega)]; exact Eq.symm (by simpa using hy)
  by_cases hx : x = 0
  · subst hx
    have HE : Hid (stpR (4, 0, y) nt nc ns = (y == 0)) := by rw [Hid, HG.out]; rfl
    go_enter Tryd.func16, Tryd.ntmps16
    go_wp2_with fail
    go_region
    all_goals (
      go_wp2_with (go_at_call 15; refine (HI.out _).mono ?_; rintro e wx ⟨rfl, rfl⟩)
      go_ret
      exact ⟨by rw [HE.out]; rfl, k1⟩)
  · have hx' : (x == 0) = false := by simpa using hx
    have HE : Hid (stpR (4, x, y) nt nc ns = false) := by rw [Hid, HG.out, hx', Bool.false_and]
    clear hx
    go_enter Tryd.func16, Tryd.ntmps16
    go_wp2_with fail
    go_region
    all_goals (
      go_wp2_with (go_at_call 15; refine (HI.out _).mono ?_; rintro e wx ⟨rfl, rfl⟩)
      go_ret
      exact ⟨by rw [HE.out]; rfl, k1⟩)
set_option maxHeartbeats 4000000 in
set_option maxRecDepth 100000 in
theorem l15Step_5 (w : World) (ca ta xa : Option Addr) (cc tc xc nc nt ns : Nat) (n v : Int) (hnc : nc ≤ 1048576) (hnt : nt ≤ 1048576) (hns : ns ≤ 1048576) (x y : Int) :
    Calls Tryd.prog 16 #[.agg #[.slice ca nc cc, .slice ta nt tc], .agg #[.int .i64 n, .int .i64 v, .slice xa ns xc], .agg #[.int .i64 5, .int .i64 x, .int .i64 y]] w fun e w' => e = .returned (.bool (stpR (5, x, y) nt nc ns)) ∧ Kept w w' := by
  have k0 : Kept w (((w.alloc (.cells #[.slice ca nc cc, .slice ta nt tc] 30)).alloc (.cells #[.int .i64 n, .int .i64 v, .slice xa ns xc] 45)).alloc (.cells #[.int .i64 5, .int .i64 x, .int .i64 y] 37)) := ((Kept.alloc (Below.refl _ _) _).alloc _).alloc _
  have k1 := k0.drew
  have HI : Hid (∀ u, Calls Tryd.prog 15 #[.int .i64 5, .int .i64 1, .int .i64 25] u fun e w' => e = .returned (.bool true) ∧ w' = u) := fun u => l1InS_yes 5 1 25 u (by decide) (by decide)
  have HG : Hid (stpR (5, x, y) nt nc ns = ((x == 0) && (y == 0))) := by
    rw [Hid, show stpR (5, x, y) nt nc ns = (decide (0 ≤ x ∧ x ≤ 0) && decide (0 ≤ y ∧ y ≤ 0)) by rw [stpR]; rfl]
    congr 1
    · by_cases hy : x = 0
      · subst hy; decide
      · rw [decide_eq_false (by omega)]; exact Eq.symm (by simpa using hy)
    · by_cases hy : y = 0
      · subst hy; decide
      · rw [decide_eq_false (by omega)]; exact Eq.symm (by simpa using hy)
  by_cases hx : x = 0
  · subst hx
    have HE : Hid (stpR (5, 0, y) nt nc ns = (y == 0)) := by rw [Hid, HG.out]; rfl
    go_enter Tryd.func16, Tryd.ntmps16
    go_wp2_with fail
    go_region
    all_goals (
      go_wp2_with (go_at_call 15; refine (HI.out _).mono ?_; rintro e wx ⟨rfl, rfl⟩)
      go_ret
      exact ⟨by rw [HE.out]; rfl, k1⟩)
  · have hx' : (x == 0) = false := by simpa using hx
    have HE : Hid (stpR (5, x, y) nt nc ns = false) := by rw [Hid, HG.out, hx', Bool.false_and]
    clear hx
    go_enter Tryd.func16, Tryd.ntmps16
    go_wp2_with fail
    go_region
    all_goals (
      go_wp2_with (go_at_call 15; refine (HI.out _).mono ?_; rintro e wx ⟨rfl, rfl⟩)
      go_ret
      exact ⟨by rw [HE.out]; rfl, k1⟩)
set_option maxHeartbeats 4000000 in
set_option maxRecDepth 100000 in
theorem l15Step_6 (w : World) (ca ta xa : Option Addr) (cc tc xc nc nt ns : Nat) (n v : Int) (hnc : nc ≤ 1048576) (hnt : nt ≤ 1048576) (hns : ns ≤ 1048576) (x y : Int) :
    Calls Tryd.prog 16 #[.agg #[.slice ca nc cc, .slice ta nt tc], .agg #[.int .i64 n, .int .i64 v, .slice xa ns xc], .agg #[.int .i64 6, .int .i64 x, .int .i64 y]] w fun e w' => e = .returned (.bool (stpR (6, x, y) nt nc ns)) ∧ Kept w w' := by
  have k0 : Kept w (((w.alloc (.cells #[.slice ca nc cc, .slice ta nt tc] 30)).alloc (.cells #[.int .i64 n, .int .i64 v, .slice xa ns xc] 45)).alloc (.cells #[.int .i64 6, .int .i64 x, .int .i64 y] 37)) := ((Kept.alloc (Below.refl _ _) _).alloc _).alloc _
  have k1 := k0.drew
  have HI : Hid (∀ u, Calls Tryd.prog 15 #[.int .i64 6, .int .i64 1, .int .i64 25] u fun e w' => e = .returned (.bool true) ∧ w' = u) := fun u => l1InS_yes 6 1 25 u (by decide) (by decide)
  have HG : Hid (stpR (6, x, y) nt nc ns = ((x == 0) && (y == 0))) := by
    rw [Hid, show stpR (6, x, y) nt nc ns = (decide (0 ≤ x ∧ x ≤ 0) && decide (0 ≤ y ∧ y ≤ 0)) by rw [stpR]; rfl]
    congr 1
    · by_cases hy : x = 0
      · subst hy; decide
      · rw [decide_eq_false (by omega)]; exact Eq.symm (by simpa using hy)
    · by_cases hy : y = 0
      · subst hy; decide
      · rw [decide_eq_false (by omega)]; exact Eq.symm (by simpa using hy)
  by_cases hx : x = 0
  · subst hx
    have HE : Hid (stpR (6, 0, y) nt nc ns = (y == 0)) := by rw [Hid, HG.out]; rfl
    go_enter Tryd.func16, Tryd.ntmps16
    go_wp2_with fail
    go_region
    all_goals (
      go_wp2_with (go_at_call 15; refine (HI.out _).mono ?_; rintro e wx ⟨rfl, rfl⟩)
      go_ret
      exact ⟨by rw [HE.out]; rfl, k1⟩)
  · have hx' : (x == 0) = false := by simpa using hx
    have HE : Hid (stpR (6, x, y) nt nc ns = false) := by rw [Hid, HG.out, hx', Bool.false_and]
    clear hx
    go_enter Tryd.func16, Tryd.ntmps16
    go_wp2_with fail
    go_region
    all_goals (
      go_wp2_with (go_at_call 15; refine (HI.out _).mono ?_; rintro e wx ⟨rfl, rfl⟩)
      go_ret
      exact ⟨by rw [HE.out]; rfl, k1⟩)
set_option maxHeartbeats 4000000 in
set_option maxRecDepth 100000 in
theorem l15Step_11 (w : World) (ca ta xa : Option Addr) (cc tc xc nc nt ns : Nat) (n v : Int) (hnc : nc ≤ 1048576) (hnt : nt ≤ 1048576) (hns : ns ≤ 1048576) (x y : Int) :
    Calls Tryd.prog 16 #[.agg #[.slice ca nc cc, .slice ta nt tc], .agg #[.int .i64 n, .int .i64 v, .slice xa ns xc], .agg #[.int .i64 11, .int .i64 x, .int .i64 y]] w fun e w' => e = .returned (.bool (stpR (11, x, y) nt nc ns)) ∧ Kept w w' := by
  have k0 : Kept w (((w.alloc (.cells #[.slice ca nc cc, .slice ta nt tc] 30)).alloc (.cells #[.int .i64 n, .int .i64 v, .slice xa ns xc] 45)).alloc (.cells #[.int .i64 11, .int .i64 x, .int .i64 y] 37)) := ((Kept.alloc (Below.refl _ _) _).alloc _).alloc _
  have k1 := k0.drew
  have HI : Hid (∀ u, Calls Tryd.prog 15 #[.int .i64 11, .int .i64 1, .int .i64 25] u fun e w' => e = .returned (.bool true) ∧ w' = u) := fun u => l1InS_yes 11 1 25 u (by decide) (by decide)
  have HG : Hid (stpR (11, x, y) nt nc ns = ((x == 0) && (y == 0))) := by
    rw [Hid, show stpR (11, x, y) nt nc ns = (decide (0 ≤ x ∧ x ≤ 0) && decide (0 ≤ y ∧ y ≤ 0)) by rw [stpR]; rfl]
    congr 1
    · by_cases hy : x = 0
      · subst hy; decide
      · rw [decide_eq_false (by omega)]; exact Eq.symm (by simpa using hy)
    · by_cases hy : y = 0
      · subst hy; decide
      · rw [decide_eq_false (by omega)]; exact Eq.symm (by simpa using hy)
  by_cases hx : x = 0
  · subst hx
    have HE : Hid (stpR (11, 0, y) nt nc ns = (y == 0)) := by rw [Hid, HG.out]; rfl
    go_enter Tryd.func16, Tryd.ntmps16
    go_wp2_with fail
    go_region
    all_goals (
      go_wp2_with (go_at_call 15; refine (HI.out _).mono ?_; rintro e wx ⟨rfl, rfl⟩)
      go_ret
      exact ⟨by rw [HE.out]; rfl, k1⟩)
  · have hx' : (x == 0) = false := by simpa using hx
    have HE : Hid (stpR (11, x, y) nt nc ns = false) := by rw [Hid, HG.out, hx', Bool.false_and]
    clear hx
    go_enter Tryd.func16, Tryd.ntmps16
    go_wp2_with fail
    go_region
    all_goals (
      go_wp2_with (go_at_call 15; refine (HI.out _).mono ?_; rintro e wx ⟨rfl, rfl⟩)
      go_ret
      exact ⟨by rw [HE.out]; rfl, k1⟩)
set_option maxHeartbeats 4000000 in
set_option maxRecDepth 100000 in
theorem l15Step_13 (w : World) (ca ta xa : Option Addr) (cc tc xc nc nt ns : Nat) (n v : Int) (hnc : nc ≤ 1048576) (hnt : nt ≤ 1048576) (hns : ns ≤ 1048576) (x y : Int) :
    Calls Tryd.prog 16 #[.agg #[.slice ca nc cc, .slice ta nt tc], .agg #[.int .i64 n, .int .i64 v, .slice xa ns xc], .agg #[.int .i64 13, .int .i64 x, .int .i64 y]] w fun e w' => e = .returned (.bool (stpR (13, x, y) nt nc ns)) ∧ Kept w w' := by
  have k0 : Kept w (((w.alloc (.cells #[.slice ca nc cc, .slice ta nt tc] 30)).alloc (.cells #[.int .i64 n, .int .i64 v, .slice xa ns xc] 45)).alloc (.cells #[.int .i64 13, .int .i64 x, .int .i64 y] 37)) := ((Kept.alloc (Below.refl _ _) _).alloc _).alloc _
  have k1 := k0.drew
  have HI : Hid (∀ u, Calls Tryd.prog 15 #[.int .i64 13, .int .i64 1, .int .i64 25] u fun e w' => e = .returned (.bool true) ∧ w' = u) := fun u => l1InS_yes 13 1 25 u (by decide) (by decide)
  have HG : Hid (stpR (13, x, y) nt nc ns = ((x == 0) && (y == 0))) := by
    rw [Hid, show stpR (13, x, y) nt nc ns = (decide (0 ≤ x ∧ x ≤ 0) && decide (0 ≤ y ∧ y ≤ 0)) by rw [stpR]; rfl]
    congr 1
    · by_cases hy : x = 0
      · subst hy; decide
      · rw [decide_eq_false (by omega)]; exact Eq.symm (by simpa using hy)
    · by_cases hy : y = 0
      · subst hy; decide
      · rw [decide_eq_false (by omega)]; exact Eq.symm (by simpa using hy)
  by_cases hx : x = 0
  · subst hx
    have HE : Hid (stpR (13, 0, y) nt nc ns = (y == 0)) := by rw [Hid, HG.out]; rfl
    go_enter Tryd.func16, Tryd.ntmps16
    go_wp2_with fail
    go_region
    all_goals (
      go_wp2_with (go_at_call 15; refine (HI.out _).mono ?_; rintro e wx ⟨rfl, rfl⟩)
      go_ret
      exact ⟨by rw [HE.out]; rfl, k1⟩)
  · have hx' : (x == 0) = false := by simpa using hx
    have HE : Hid (stpR (13, x, y) nt nc ns = false) := by rw [Hid, HG.out, hx', Bool.false_and]
    clear hx
    go_enter Tryd.func16, Tryd.ntmps16
    go_wp2_with fail
    go_region
    all_goals (
      go_wp2_with (go_at_call 15; refine (HI.out _).mono ?_; rintro e wx ⟨rfl, rfl⟩)
      go_ret
      exact ⟨by rw [HE.out]; rfl, k1⟩)
set_option maxHeartbeats 4000000 in
set_option maxRecDepth 100000 in
theorem l15Step_14 (w : World) (ca ta xa : Option Addr) (cc tc xc nc nt ns : Nat) (n v : Int) (hnc : nc ≤ 1048576) (hnt : nt ≤ 1048576) (hns : ns ≤ 1048576) (x y : Int) :
    Calls Tryd.prog 16 #[.agg #[.slice ca nc cc, .slice ta nt tc], .agg #[.int .i64 n, .int .i64 v, .slice xa ns xc], .agg #[.int .i64 14, .int .i64 x, .int .i64 y]] w fun e w' => e = .returned (.bool (stpR (14, x, y) nt nc ns)) ∧ Kept w w' := by
  have k0 : Kept w (((w.alloc (.cells #[.slice ca nc cc, .slice ta nt tc] 30)).alloc (.cells #[.int .i64 n, .int .i64 v, .slice xa ns xc] 45)).alloc (.cells #[.int .i64 14, .int .i64 x, .int .i64 y] 37)) := ((Kept.alloc (Below.refl _ _) _).alloc _).alloc _
  have k1 := k0.drew
  have HI : Hid (∀ u, Calls Tryd.prog 15 #[.int .i64 14, .int .i64 1, .int .i64 25] u fun e w' => e = .returned (.bool true) ∧ w' = u) := fun u => l1InS_yes 14 1 25 u (by decide) (by decide)
  have HG : Hid (stpR (14, x, y) nt nc ns = ((x == 0) && (y == 0))) := by
    rw [Hid, show stpR (14, x, y) nt nc ns = (decide (0 ≤ x ∧ x ≤ 0) && decide (0 ≤ y ∧ y ≤ 0)) by rw [stpR]; rfl]
    congr 1
    · by_cases hy : x = 0
      · subst hy; decide
      · rw [decide_eq_false (by omega)]; exact Eq.symm (by simpa using hy)
    · by_cases hy : y = 0
      · subst hy; decide
      · rw [decide_eq_false (by omega)]; exact Eq.symm (by simpa using hy)
  by_cases hx : x = 0
  · subst hx
    have HE : Hid (stpR (14, 0, y) nt nc ns = (y == 0)) := by rw [Hid, HG.out]; rfl
    go_enter Tryd.func16, Tryd.ntmps16
    go_wp2_with fail
    go_region
    all_goals (
      go_wp2_with (go_at_call 15; refine (HI.out _).mono ?_; rintro e wx ⟨rfl, rfl⟩)
      go_ret
      exact ⟨by rw [HE.out]; rfl, k1⟩)
  · have hx' : (x == 0) = false := by simpa using hx
    have HE : Hid (stpR (14, x, y) nt nc ns = false) := by rw [Hid, HG.out, hx', Bool.false_and]
    clear hx
    go_enter Tryd.func16, Tryd.ntmps16
    go_wp2_with fail
    go_region
    all_goals (
      go_wp2_with (go_at_call 15; refine (HI.out _).mono ?_; rintro e wx ⟨rfl, rfl⟩)
      go_ret
      exact ⟨by rw [HE.out]; rfl, k1⟩)
end Go.Proofs.YtjagnmajnlcahaaDoor
