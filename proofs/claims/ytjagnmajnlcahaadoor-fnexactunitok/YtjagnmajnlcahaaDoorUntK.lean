/-
  spec.l15Step exactly (chapter 15).
-/
import Derived.Test.YtjagnmajnlcahaaDoorUntH
import Derived.Test.YtjagnmajnlcahaaDoorUntJ
import Derived.Test.YtjagnmajnlcahaaDoorUntL
import Derived.Test.YtjagnmajnlcahaaDoorUntM
namespace Go.Proofs.YtjagnmajnlcahaaDoor
open Go.RowKit
set_option linter.unusedSimpArgs false
set_option linter.unusedVariables false
theorem cutOps {op : Int} (h : 1 ≤ op ∧ op ≤ 25) : op = 1 ∨ op = 2 ∨ op = 3 ∨ op = 4 ∨ op = 5 ∨ op = 6 ∨ op = 7 ∨ op = 8 ∨ op = 9 ∨ op = 10 ∨ op = 11 ∨ op = 12 ∨ op = 13 ∨ op = 14 ∨ op = 15 ∨ op = 16 ∨ op = 17 ∨ op = 18 ∨ op = 19 ∨ op = 20 ∨ op = 21 ∨ op = 22 ∨ op = 23 ∨ op = 24 ∨ op = 25 := by omega
set_option maxHeartbeats 4000000 in
set_option maxRecDepth 100000 in
theorem l15Step_ok (w : World) (ca ta xa : Option Addr) (cc tc xc nc nt ns : Nat) (n v : Int) (hnc : nc ≤ 1048576) (hnt : nt ≤ 1048576) (hns : ns ≤ 1048576) (o x y : Int) :
    Calls Tryd.prog 16 #[.agg #[.slice ca nc cc, .slice ta nt tc], .agg #[.int .i64 n, .int .i64 v, .slice xa ns xc], .agg #[.int .i64 o, .int .i64 x, .int .i64 y]] w fun e w' => e = .returned (.bool (stpR (o, x, y) nt nc ns)) ∧ Kept w w' := by
  by_cases h : 1 ≤ o ∧ o ≤ 25
  · rcases cutOps h with rfl | rfl | rfl | rfl | rfl | rfl | rfl | rfl | rfl | rfl | rfl | rfl | rfl | rfl | rfl | rfl | rfl | rfl | rfl | rfl | rfl | rfl | rfl | rfl | rfl
    · exact l15Step_1 w ca ta xa cc tc xc nc nt ns n v hnc hnt hns x y
    · exact l15Step_2 w ca ta xa cc tc xc nc nt ns n v hnc hnt hns x y
    · exact l15Step_3 w ca ta xa cc tc xc nc nt ns n v hnc hnt hns x y
    · exact l15Step_4 w ca ta xa cc tc xc nc nt ns n v hnc hnt hns x y
    · exact l15Step_5 w ca ta xa cc tc xc nc nt ns n v hnc hnt hns x y
    · exact l15Step_6 w ca ta xa cc tc xc nc nt ns n v hnc hnt hns x y
    · exact l15Step_7 w ca ta xa cc tc xc nc nt ns n v hnc hnt hns x y
    · exact l15Step_8 w ca ta xa cc tc xc nc nt ns n v hnc hnt hns x y
    · exact l15Step_9 w ca ta xa cc tc xc nc nt ns n v hnc hnt hns x y
    · exact l15Step_10 w ca ta xa cc tc xc nc nt ns n v hnc hnt hns x y
    · exact l15Step_11 w ca ta xa cc tc xc nc nt ns n v hnc hnt hns x y
    · exact l15Step_12 w ca ta xa cc tc xc nc nt ns n v hnc hnt hns x y
    · exact l15Step_13 w ca ta xa cc tc xc nc nt ns n v hnc hnt hns x y
    · exact l15Step_14 w ca ta xa cc tc xc nc nt ns n v hnc hnt hns x y
    · exact l15Step_15 w ca ta xa cc tc xc nc nt ns n v hnc hnt hns x y
    · exact l15Step_16 w ca ta xa cc tc xc nc nt ns n v hnc hnt hns x y
    · exact l15Step_17 w ca ta xa cc tc xc nc nt ns n v hnc hnt hns x y
    · exact l15Step_18 w ca ta xa cc tc xc nc nt ns n v hnc hnt hns x y
    · exact l15Step_19 w ca ta xa cc tc xc nc nt ns n v hnc hnt hns x y
    · exact l15Step_20 w ca ta xa cc tc xc nc nt ns n v hnc hnt hns x y
    · exact l15Step_21 w ca ta xa cc tc xc nc nt ns n v hnc hnt hns x y
    · exact l15Step_22 w ca ta xa cc tc xc nc nt ns n v hnc hnt hns x y
    · exact l15Step_23 w ca ta xa cc tc xc nc nt ns n v hnc hnt hns x y
    · exact l15Step_24 w ca ta xa cc tc xc nc nt ns n v hnc hnt hns x y
    · exact l15Step_25 w ca ta xa cc tc xc nc nt ns n v hnc hnt hns x y
  · have HE : Hid (stpR (o, x, y) nt nc ns = false) := by rw [Hid, stpR, decide_eq_false h, Bool.false_and]
    have k0 : Kept w (((w.alloc (.cells #[.slice ca nc cc, .slice ta nt tc] 30)).alloc (.cells #[.int .i64 n, .int .i64 v, .slice xa ns xc] 45)).alloc (.cells #[.int .i64 o, .int .i64 x, .int .i64 y] 37)) := ((Kept.alloc (Below.refl _ _) _).alloc _).alloc _
    have k1 := k0.drew
    have HI : Hid (∀ u, Calls Tryd.prog 15 #[.int .i64 o, .int .i64 1, .int .i64 25] u fun e w' => e = .returned (.bool false) ∧ w' = u) := fun u => l1InS_no o 1 25 u (by omega)
    have e1 : (o == 1) = false := by simp; omega
    have e2 : (o == 2) = false := by simp; omega
    have e9 : (o == 9) = false := by simp; omega
    have e10 : (o == 10) = false := by simp; omega
    have e25 : (o == 25) = false := by simp; omega
    have e7 : (o == 7) = false := by simp; omega
    have e8 : (o == 8) = false := by simp; omega
    have e12 : (o == 12) = false := by simp; omega
    have e20 : (o == 20) = false := by simp; omega
    have e21 : (o == 21) = false := by simp; omega
    have e24 : (o == 24) = false := by simp; omega
    clear h hnc hnt hns
    go_enter Tryd.func16, Tryd.ntmps16
    go_wp2_with fail
    go_region
    all_goals (
      go_wp2_with (go_at_call 15; refine (HI.out _).mono ?_; rintro e wx ⟨rfl, rfl⟩)
      go_ret
      exact ⟨by rw [HE.out]; rfl, k1⟩)
end Go.Proofs.YtjagnmajnlcahaaDoor
