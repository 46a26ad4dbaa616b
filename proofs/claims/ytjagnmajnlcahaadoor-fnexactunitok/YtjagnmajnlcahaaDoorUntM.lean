/-
  spec.l15Step exactly, op by op (chapter 15).
-/
import Derived.Test.YtjagnmajnlcahaaDoorUntP
import Derived.Test.YtjagnmajnlcahaaDoorUntI
namespace Go.Proofs.YtjagnmajnlcahaaDoor
open Go.RowKit
set_option linter.unusedSimpArgs false
set_option linter.unusedVariables false
set_option maxHeartbeats 4000000 in
set_option maxRecDepth 100000 in
theorem l15Step_15 (w : World) (ca ta xa : Option Addr) (cc tc xc nc nt ns : Nat) (n v : Int) (hnc : nc ≤ 1048576) (hnt : nt ≤ 1048576) (hns : ns ≤ 1048576) (x y : Int) :
    Calls Tryd.prog 16 #[.agg #[.slice ca nc cc, .slice ta nt tc], .agg #[.int .i64 n, .int .i64 v, .slice xa ns xc], .agg #[.int .i64 15, .int .i64 x, .int .i64 y]] w fun e w' => e = .returned (.bool (stpR (15, x, y) nt nc ns)) ∧ Kept w w' := by
  have k0 : Kept w (((w.alloc (.cells #[.slice ca nc cc, .slice ta nt tc] 30)).alloc (.cells #[.int .i64 n, .int .i64 v, .slice xa ns xc] 45)).alloc (.cells #[.int .i64 15, .int .i64 x, .int .i64 y] 37)) := ((Kept.alloc (Below.refl _ _) _).alloc _).alloc _
  have k1 := k0.drew
  have HI : Hid (∀ u, Calls Tryd.prog 15 #[.int .i64 15, .int .i64 1, .int .i64 25] u fun e w' => e = .returned (.bool true) ∧ w' = u) := fun u => l1InS_yes 15 1 25 u (by decide) (by decide)
  have HG : Hid (stpR (15, x, y) nt nc ns = ((x == 0) && (y == 0))) := by
    rw [Hid, show stpR (15, x, y) nt nc ns = (decide (0 ≤ x ∧ x ≤ 0) && decide (0 ≤ y ∧ y ≤ 0)) by rw [stpR]; rfl]
    congr 1
    · by_cases hy : x = 0
      · subst hy; decide
      · rw [decide_eq_false (by omega)]; exact Eq.symm (by simpa using hy)
    · by_cases hy : y = 0
      · subst hy; decide
      · rw [decide_eq_false (by omega)]; exact Eq.symm (by simpa using hy)
  by_cases hx : x = 0
  · subst hx
    have HE : Hid (stpR (15, 0, y) nt nc ns = (y == 0)) := by rw [Hid, HG.out]; rfl
    go_enter Tryd.func16, Tryd.ntmps16
    go_wp2_with fail
    go_region
    all_goals (
      go_wp2_with (go_at_call 15; refine (HI.out _).mono ?_; rintro e wx ⟨rfl, rfl⟩)
      go_ret
      exact ⟨by rw [HE.out]; rfl, k1⟩)
  · have hx' : (x == 0) = false := by simpa using hx
    have HE : Hid (stpR (15, x, y) nt nc ns = false) := by rw [Hid, HG.out, hx', Bool.false_and]
    clear hx
    go_enter Tryd.func16, Tryd.ntmps16
    go_wp2_with fail
    go_region
    all_goals (
      go_wp2_with (go_at_call 15; refine (HI.out _).mono ?_; rintro e wx ⟨rfl, rfl⟩)
      go_ret
      exact ⟨by rw [HE.out]; rfl, k1⟩)
set_option maxHeartbeats 4000000 in
set_option maxRecDepth 100000 in
theorem l15Step_16 (w : World) (ca ta xa : Option Addr) (cc tc xc nc nt ns : Nat) (n v : Int) (hnc : nc ≤ 1048576) (hnt : nt ≤ 1048576) (hns : ns ≤ 1048576) (x y : Int) :
    Calls Tryd.prog 16 #[.agg #[.slice ca nc cc, .slice ta nt tc], .agg #[.int .i64 n, .int .i64 v, .slice xa ns xc], .agg #[.int .i64 16, .int .i64 x, .int .i64 y]] w fun e w' => e = .returned (.bool (stpR (16, x, y) nt nc ns)) ∧ Kept w w' := by
  have k0 : Kept w (((w.alloc (.cells #[.slice ca nc cc, .slice ta nt tc] 30)).alloc (.cells #[.int .i64 n, .int .i64 v, .slice xa ns xc] 45)).alloc (.cells #[.int .i64 16, .int .i64 x, .int .i64 y] 37)) := ((Kept.alloc (Below.refl _ _) _).alloc _).alloc _
  have k1 := k0.drew
  have HI : Hid (∀ u, Calls Tryd.prog 15 #[.int .i64 16, .int .i64 1, .int .i64 25] u fun e w' => e = .returned (.bool true) ∧ w' = u) := fun u => l1InS_yes 16 1 25 u (by decide) (by decide)
  have HG : Hid (stpR (16, x, y) nt nc ns = ((x == 0) && (y == 0))) := by
    rw [Hid, show stpR (16, x, y) nt nc ns = (decide (0 ≤ x ∧ x ≤ 0) && decide (0 ≤ y ∧ y ≤ 0)) by rw [stpR]; rfl]
    congr 1
    · by_cases hy : x = 0
      · subst hy; decide
      · rw [decide_eq_false (by omega)]; exact Eq.symm (by simpa using hy)
    · by_cases hy : y = 0
      · subst hy; decide
      · rw [decide_eq_false (by omega)]; exact Eq.symm (by simpa using hy)
  by_cases hx : x = 0
  · subst hx
    have HE : Hid (stpR (16, 0, y) nt nc ns = (y == 0)) := by rw [Hid, HG.out]; rfl
    go_enter Tryd.func16, Tryd.ntmps16
    go_wp2_with fail
    go_region
    all_goals (
      go_wp2_with (go_at_call 15; refine (HI.out _).mono ?_; rintro e wx ⟨rfl, rfl⟩)
      go_ret
      exact ⟨by rw [HE.out]; rfl, k1⟩)
  · have hx' : (x == 0) = false := by simpa using hx
    have HE : Hid (stpR (16, x, y) nt nc ns = false) := by rw [Hid, HG.out, hx', Bool.false_and]
    clear hx
    go_enter Tryd.func16, Tryd.ntmps16
    go_wp2_with fail
    go_region
    all_goals (
      go_wp2_with (go_at_call 15; refine (HI.out _).mono ?_; rintro e wx ⟨rfl, rfl⟩)
      go_ret
      exact ⟨by rw [HE.out]; rfl, k1⟩)
set_option maxHeartbeats 4000000 in
set_option maxRecDepth 100000 in
theorem l15Step_17 (w : World) (ca ta xa : Option Addr) (cc tc xc nc nt ns : Nat) (n v : Int) (hnc : nc ≤ 1048576) (hnt : nt ≤ 1048576) (hns : ns ≤ 1048576) (x y : Int) :
    Calls Tryd.prog 16 #[.agg #[.slice ca nc cc, .slice ta nt tc], .agg #[.int .i64 n, .int .i64 v, .slice xa ns xc], .agg #[.int .i64 17, .int .i64 x, .int .i64 y]] w fun e w' => e = .returned (.bool (stpR (17, x, y) nt nc ns)) ∧ Kept w w' := by
  have k0 : Kept w (((w.alloc (.cells #[.slice ca nc cc, .slice ta nt tc] 30)).alloc (.cells #[.int .i64 n, .int .i64 v, .slice xa ns xc] 45)).alloc (.cells #[.int .i64 17, .int .i64 x, .int .i64 y] 37)) := ((Kept.alloc (Below.refl _ _) _).alloc _).alloc _
  have k1 := k0.drew
  have HI : Hid (∀ u, Calls Tryd.prog 15 #[.int .i64 17, .int .i64 1, .int .i64 25] u fun e w' => e = .returned (.bool true) ∧ w' = u) := fun u => l1InS_yes 17 1 25 u (by decide) (by decide)
  have HG : Hid (stpR (17, x, y) nt nc ns = ((x == 0) && (y == 0))) := by
    rw [Hid, show stpR (17, x, y) nt nc ns = (decide (0 ≤ x ∧ x ≤ 0) && decide (0 ≤ y ∧ y ≤ 0)) by rw [stpR]; rfl]
    congr 1
    · by_cases hy : x = 0
      · subst hy; decide
      · rw [decide_eq_false (by omega)]; exact Eq.symm (by simpa using hy)
    · by_cases hy : y = 0
      · subst hy; decide
      · rw [decide_eq_false (by omega)]; exact Eq.symm (by simpa using hy)
  by_cases hx : x = 0
  · subst hx
    have HE : Hid (stpR (17, 0, y) nt nc ns = (y == 0)) := by rw [Hid, HG.out]; rfl
    go_enter Tryd.func16, Tryd.ntmps16
    go_wp2_with fail
    go_region
    all_goals (
      go_wp2_with (go_at_call 15; refine (HI.out _).mono ?_; rintro e wx ⟨rfl, rfl⟩)
      go_ret
      exact ⟨by rw [HE.out]; rfl, k1⟩)
  · have hx' : (x == 0) = false := by simpa using hx
    have HE : Hid (stpR (17, x, y) nt nc ns = false) := by rw [Hid, HG.out, hx', Bool.false_and]
    clear hx
    go_enter Tryd.func16, Tryd.ntmps16
    go_wp2_with fail
    go_region
    all_goals (
      go_wp2_with (go_at_call 15; refine (HI.out _).mono ?_; rintro e wx ⟨rfl, rfl⟩)
      go_ret
      exact ⟨by rw [HE.out]; rfl, k1⟩)
set_option maxHeartbeats 4000000 in
set_option maxRecDepth 100000 in
theorem l15Step_18 (w : World) (ca ta xa : Option Addr) (cc tc xc nc nt ns : Nat) (n v : Int) (hnc : nc ≤ 1048576) (hnt : nt ≤ 1048576) (hns : ns ≤ 1048576) (x y : Int) :
    Calls Tryd.prog 16 #[.agg #[.slice ca nc cc, .slice ta nt tc], .agg #[.int .i64 n, .int .i64 v, .slice xa ns xc], .agg #[.int .i64 18, .int .i64 x, .int .i64 y]] w fun e w' => e = .returned (.bool (stpR (18, x, y) nt nc ns)) ∧ Kept w w' := by
  have k0 : Kept w (((w.alloc (.cells #[.slice ca nc cc, .slice ta nt tc] 30)).alloc (.cells #[.int .i64 n, .int .i64 v, .slice xa ns xc] 45)).alloc (.cells #[.int .i64 18, .int .i64 x, .int .i64 y] 37)) := ((Kept.alloc (Below.refl _ _) _).alloc _).alloc _
  have k1 := k0.drew
  have HI : Hid (∀ u, Calls Tryd.prog 15 #[.int .i64 18, .int .i64 1, .int .i64 25] u fun e w' => e = .returned (.bool true) ∧ w' = u) := fun u => l1InS_yes 18 1 25 u (by decide) (by decide)
  have HG : Hid (stpR (18, x, y) nt nc ns = ((x == 0) && (y == 0))) := by
    rw [Hid, show stpR (18, x, y) nt nc ns = (decide (0 ≤ x ∧ x ≤ 0) && decide (0 ≤ y ∧ y ≤ 0)) by rw [stpR]; rfl]
    congr 1
    · by_cases hy : x = 0
      · subst hy; decide
      · rw [decide_eq_false (by omega)]; exact Eq.symm (by simpa using hy)
    · by_cases hy : y = 0
      · subst hy; decide
      · rw [decide_eq_false (by omega)]; exact Eq.symm (by simpa using hy)
  by_cases hx : x = 0
  · subst hx
    have HE : Hid (stpR (18, 0, y) nt nc ns = (y == 0)) := by rw [Hid, HG.out]; rfl
    go_enter Tryd.func16, Tryd.ntmps16
    go_wp2_with fail
    go_region
    all_goals (
      go_wp2_with (go_at_call 15; refine (HI.out _).mono ?_; rintro e wx ⟨rfl, rfl⟩)
      go_ret
      exact ⟨by rw [HE.out]; rfl, k1⟩)
  · have hx' : (x == 0) = false := by simpa using hx
    have HE : Hid (stpR (18, x, y) nt nc ns = false) := by rw [Hid, HG.out, hx', Bool.false_and]
    clear hx
    go_enter Tryd.func16, Tryd.ntmps16
    go_wp2_with fail
    go_region
    all_goals (
      go_wp2_with (go_at_call 15; refine (HI.out _).mono ?_; rintro e wx ⟨rfl, rfl⟩)
      go_ret
      exact ⟨by rw [HE.out]; rfl, k1⟩)
set_option maxHeartbeats 4000000 in
set_option maxRecDepth 100000 in
theorem l15Step_19 (w : World) (ca ta xa : Option Addr) (cc tc xc nc nt ns : Nat) (n v : Int) (hnc : nc ≤ 1048576) (hnt : nt ≤ 1048576) (hns : ns ≤ 1048576) (x y : Int) :
    Calls Tryd.prog 16 #[.agg #[.slice ca nc cc, .slice ta nt tc], .agg #[.int .i64 n, .int .i64 v, .slice xa ns xc], .agg #[.int .i64 19, .int .i64 x, .int .i64 y]] w fun e w' => e = .returned (.bool (stpR (19, x, y) nt nc ns)) ∧ Kept w w' := by
  have k0 : Kept w (((w.alloc (.cells #[.slice ca nc cc, .slice ta nt tc] 30)).alloc (.cells #[.int .i64 n, .int .i64 v, .slice xa ns xc] 45)).alloc (.cells #[.int .i64 19, .int .i64 x, .int .i64 y] 37)) := ((Kept.alloc (Below.refl _ _) _).alloc _).alloc _
  have k1 := k0.drew
  have HI : Hid (∀ u, Calls Tryd.prog 15 #[.int .i64 19, .int .i64 1, .int .i64 25] u fun e w' => e = .returned (.bool true) ∧ w' = u) := fun u => l1InS_yes 19 1 25 u (by decide) (by decide)
  have HG : Hid (stpR (19, x, y) nt nc ns = ((x == 0) && (y == 0))) := by
    rw [Hid, show stpR (19, x, y) nt nc ns = (decide (0 ≤ x ∧ x ≤ 0) && decide (0 ≤ y ∧ y ≤ 0)) by rw [stpR]; rfl]
    congr 1
    · by_cases hy : x = 0
      · subst hy; decide
      · rw [decide_eq_false (by omega)]; exact Eq.symm (by simpa using hy)
    · by_cases hy : y = 0
      · subst hy; decide
      · rw [decide_eq_false (by omega)]; exact Eq.symm (by simpa using hy)
  by_cases hx : x = 0
  · subst hx
    have HE : Hid (stpR (19, 0, y) nt nc ns = (y == 0)) := by rw [Hid, HG.out]; rfl
    go_enter Tryd.func16, Tryd.ntmps16
    go_wp2_with fail
    go_region
    all_goals (
      go_wp2_with (go_at_call 15; refine (HI.out _).mono ?_; rintro e wx ⟨rfl, rfl⟩)
      go_ret
      exact ⟨by rw [HE.out]; rfl, k1⟩)
  · have hx' : (x == 0) = false := by simpa using hx
    have HE : Hid (stpR (19, x, y) nt nc ns = false) := by rw [Hid, HG.out, hx', Bool.false_and]
    clear hx
    go_enter Tryd.func16, Tryd.ntmps16
    go_wp2_with fail
    go_region
    all_goals (
      go_wp2_with (go_at_call 15; refine (HI.out _).mono ?_; rintro e wx ⟨rfl, rfl⟩)
      go_ret
      exact ⟨by rw [HE.out]; rfl, k1⟩)
set_option maxHeartbeats 4000000 in
set_option maxRecDepth 100000 in
theorem l15Step_22 (w : World) (ca ta xa : Option Addr) (cc tc xc nc nt ns : Nat) (n v : Int) (hnc : nc ≤ 1048576) (hnt : nt ≤ 1048576) (hns : ns ≤ 1048576) (x y : Int) :
    Calls Tryd.prog 16 #[.agg #[.slice ca nc cc, .slice ta nt tc], .agg #[.int .i64 n, .int .i64 v, .slice xa ns xc], .agg #[.int .i64 22, .int .i64 x, .int .i64 y]] w fun e w' => e = .returned (.bool (stpR (22, x, y) nt nc ns)) ∧ Kept w w' := by
  have k0 : Kept w (((w.alloc (.cells #[.slice ca nc cc, .slice ta nt tc] 30)).alloc (.cells #[.int .i64 n, .int .i64 v, .slice xa ns xc] 45)).alloc (.cells #[.int .i64 22, .int .i64 x, .int .i64 y] 37)) := ((Kept.alloc (Below.refl _ _) _).alloc _).alloc _
  have k1 := k0.drew
  have HI : Hid (∀ u, Calls Tryd.prog 15 #[.int .i64 22, .int .i64 1, .int .i64 25] u fun e w' => e = .returned (.bool true) ∧ w' = u) := fun u => l1InS_yes 22 1 25 u (by decide) (by decide)
  have HG : Hid (stpR (22, x, y) nt nc ns = ((x == 0) && (y == 0))) := by
    rw [Hid, show stpR (22, x, y) nt nc ns = (decide (0 ≤ x ∧ x ≤ 0) && decide (0 ≤ y ∧ y ≤ 0)) by rw [stpR]; rfl]
    congr 1
    · by_cases hy : x = 0
      · subst hy; decide
      · rw [decide_eq_false (by omega)]; exact Eq.symm (by simpa using hy)
    · by_cases hy : y = 0
      · subst hy; decide
      · rw [decide_eq_false (by omega)]; exact Eq.symm (by simpa using hy)
  by_cases hx : x = 0
  · subst hx
    have HE : Hid (stpR (22, 0, y) nt nc ns = (y == 0)) := by rw [Hid, HG.out]; rfl
    go_enter Tryd.func16, Tryd.ntmps16
    go_wp2_with fail
    go_region
    all_goals (
      go_wp2_with (go_at_call 15; refine (HI.out _).mono ?_; rintro e wx ⟨rfl, rfl⟩)
      go_ret
      exact ⟨by rw [HE.out]; rfl, k1⟩)
  · have hx' : (x == 0) = false := by simpa using hx
    have HE : Hid (stpR (22, x, y) nt nc ns = false) := by rw [Hid, HG.out, hx', Bool.false_and]
    clear hx
    go_enter Tryd.func16, Tryd.ntmps16
    go_wp2_with fail
    go_region
    all_goals (
      go_wp2_with (go_at_call 15; refine (HI.out _).mono ?_; rintro e wx ⟨rfl, rfl⟩)
      go_ret
      exact ⟨by rw [HE.out]; rfl, k1⟩)
set_option maxHeartbeats 4000000 in
set_option maxRecDepth 100000 in
theorem l15Step_23 (w : World) (ca ta xa : Option Addr) (cc tc xc nc nt ns : Nat) (n v : Int) (hnc : nc ≤ 1048576) (hnt : nt ≤ 1048576) (hns : ns ≤ 1048576) (x y : Int) :
    Calls Tryd.prog 16 #[.agg #[.slice ca nc cc, .slice ta nt tc], .agg #[.int .i64 n, .int .i64 v, .slice xa ns xc], .agg #[.int .i64 23, .int .i64 x, .int .i64 y]] w fun e w' => e = .returned (.bool (stpR (23, x, y) nt nc ns)) ∧ Kept w w' := by
  have k0 : Kept w (((w.alloc (.cells #[.slice ca nc cc, .slice ta nt tc] 30)).alloc (.cells #[.int .i64 n, .int .i64 v, .slice xa ns xc] 45)).alloc (.cells #[.int .i64 23, .int .i64 x, .int .i64 y] 37)) := ((Kept.alloc (Below.refl _ _) _).alloc _).alloc _
  have k1 := k0.drew
  have HI : Hid (∀ u, Calls Tryd.prog 15 #[.int .i64 23, .int .i64 1, .int .i64 25] u fun e w' => e = .returned (.bool true) ∧ w' = u) := fun u => l1InS_yes 23 1 25 u (by decide) (by decide)
  have HG : Hid (stpR (23, x, y) nt nc ns = ((x == 0) && (y == 0))) := by
    rw [Hid, show stpR (23, x, y) nt nc ns = (decide (0 ≤ x ∧ x ≤ 0) && decide (0 ≤ y ∧ y ≤ 0)) by rw [stpR]; rfl]
    congr 1
    · by_cases hy : x = 0
      · subst hy; decide
      · rw [decide_eq_false (by omega)]; exact Eq.symm (by simpa using hy)
    · by_cases hy : y = 0
      · subst hy; decide
      · rw [decide_eq_false (by omega)]; exact Eq.symm (by simpa using hy)
  by_cases hx : x = 0
  · subst hx
    have HE : Hid (stpR (23, 0, y) nt nc ns = (y == 0)) := by rw [Hid, HG.out]; rfl
    go_enter Tryd.func16, Tryd.ntmps16
    go_wp2_with fail
    go_region
    all_goals (
      go_wp2_with (go_at_call 15; refine (HI.out _).mono ?_; rintro e wx ⟨rfl, rfl⟩)
      go_ret
      exact ⟨by rw [HE.out]; rfl, k1⟩)
  · have hx' : (x == 0) = false := by simpa using hx
    have HE : Hid (stpR (23, x, y) nt nc ns = false) := by rw [Hid, HG.out, hx', Bool.false_and]
    clear hx
    go_enter Tryd.func16, Tryd.ntmps16
    go_wp2_with fail
    go_region
    all_goals (
      go_wp2_with (go_at_call 15; refine (HI.out _).mono ?_; rintro e wx ⟨rfl, rfl⟩)
      go_ret
      exact ⟨by rw [HE.out]; rfl, k1⟩)
end Go.Proofs.YtjagnmajnlcahaaDoor
