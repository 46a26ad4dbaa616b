/-
  Right units, the program's side: operand.bounds, operand.fits, stepOk (chapter 15).
-/
import Derived.Test.YtjagnmajnlcahaaDoorUntP
import Derived.BigQuiet
namespace Go.Proofs.YtjagnmajnlcahaaDoor
open Go.RowKit
set_option linter.unusedSimpArgs false
set_option linter.unusedVariables false
set_option maxHeartbeats 4000000 in
set_option maxRecDepth 100000 in
theorem bounds_1 (w : World) (ca ta xa : Option Addr) (cc tc xc nc nt ns : Nat) (n v : Int) (hnc : nc ≤ 1048576) (hnt : nt ≤ 1048576) (hns : ns ≤ 1048576) :
    Calls Tryd.prog 37 #[.int .i64 1, .agg #[.slice ca nc cc, .slice ta nt tc], .agg #[.int .i64 n, .int .i64 v, .slice xa ns xc]] w fun e w' => e = .returned (.tuple #[.int .i64 (-2147483648), .int .i64 2147483647]) ∧ Kept w w' := by
  have k0 : Kept w ((w.alloc (.cells #[.slice ca nc cc, .slice ta nt tc] 30)).alloc (.cells #[.int .i64 n, .int .i64 v, .slice xa ns xc] 45)) := (Kept.alloc (Below.refl _ _) _).alloc _
  go_enter Tryd.func37, Tryd.ntmps37
  go_wp2_with fail
  refine bodyPost_ret (v := .tuple #[.int .i64 (-2147483648), .int .i64 2147483647]) (by simp [results, Tryd.results37, go_sem]) rfl ⟨rfl, k0⟩
set_option maxHeartbeats 4000000 in
set_option maxRecDepth 100000 in
theorem bounds_2 (w : World) (ca ta xa : Option Addr) (cc tc xc nc nt ns : Nat) (n v : Int) (hnc : nc ≤ 1048576) (hnt : nt ≤ 1048576) (hns : ns ≤ 1048576) :
    Calls Tryd.prog 37 #[.int .i64 2, .agg #[.slice ca nc cc, .slice ta nt tc], .agg #[.int .i64 n, .int .i64 v, .slice xa ns xc]] w fun e w' => e = .returned (.tuple #[.int .i64 0, .int .i64 ((nt : Int) - 1)]) ∧ Kept w w' := by
  have k0 : Kept w ((w.alloc (.cells #[.slice ca nc cc, .slice ta nt tc] 30)).alloc (.cells #[.int .i64 n, .int .i64 v, .slice xa ns xc] 45)) := (Kept.alloc (Below.refl _ _) _).alloc _
  go_enter Tryd.func37, Tryd.ntmps37
  go_wp2_with fail
  go_region
  all_goals (
    go_wp2_with fail
    refine bodyPost_ret (v := .tuple #[.int .i64 0, .int .i64 ((nt : Int) - 1)]) (by simp [results, Tryd.results37, go_sem]) rfl ⟨rfl, k0.drew⟩)
set_option maxHeartbeats 4000000 in
set_option maxRecDepth 100000 in
theorem bounds_3 (w : World) (ca ta xa : Option Addr) (cc tc xc nc nt ns : Nat) (n v : Int) (hnc : nc ≤ 1048576) (hnt : nt ≤ 1048576) (hns : ns ≤ 1048576) :
    Calls Tryd.prog 37 #[.int .i64 3, .agg #[.slice ca nc cc, .slice ta nt tc], .agg #[.int .i64 n, .int .i64 v, .slice xa ns xc]] w fun e w' => e = .returned (.tuple #[.int .i64 0, .int .i64 40]) ∧ Kept w w' := by
  have k0 : Kept w ((w.alloc (.cells #[.slice ca nc cc, .slice ta nt tc] 30)).alloc (.cells #[.int .i64 n, .int .i64 v, .slice xa ns xc] 45)) := (Kept.alloc (Below.refl _ _) _).alloc _
  go_enter Tryd.func37, Tryd.ntmps37
  go_wp2_with fail
  refine bodyPost_ret (v := .tuple #[.int .i64 0, .int .i64 40]) (by simp [results, Tryd.results37, go_sem]) rfl ⟨rfl, k0⟩
set_option maxHeartbeats 4000000 in
set_option maxRecDepth 100000 in
theorem bounds_4 (w : World) (ca ta xa : Option Addr) (cc tc xc nc nt ns : Nat) (n v : Int) (hnc : nc ≤ 1048576) (hnt : nt ≤ 1048576) (hns : ns ≤ 1048576) :
    Calls Tryd.prog 37 #[.int .i64 4, .agg #[.slice ca nc cc, .slice ta nt tc], .agg #[.int .i64 n, .int .i64 v, .slice xa ns xc]] w fun e w' => e = .returned (.tuple #[.int .i64 0, .int .i64 11]) ∧ Kept w w' := by
  have k0 : Kept w ((w.alloc (.cells #[.slice ca nc cc, .slice ta nt tc] 30)).alloc (.cells #[.int .i64 n, .int .i64 v, .slice xa ns xc] 45)) := (Kept.alloc (Below.refl _ _) _).alloc _
  go_enter Tryd.func37, Tryd.ntmps37
  go_wp2_with fail
  refine bodyPost_ret (v := .tuple #[.int .i64 0, .int .i64 11]) (by simp [results, Tryd.results37, go_sem]) rfl ⟨rfl, k0⟩
set_option maxHeartbeats 4000000 in
set_option maxRecDepth 100000 in
theorem bounds_5 (w : World) (ca ta xa : Option Addr) (cc tc xc nc nt ns : Nat) (n v : Int) (hnc : nc ≤ 1048576) (hnt : nt ≤ 1048576) (hns : ns ≤ 1048576) :
    Calls Tryd.prog 37 #[.int .i64 5, .agg #[.slice ca nc cc, .slice ta nt tc], .agg #[.int .i64 n, .int .i64 v, .slice xa ns xc]] w fun e w' => e = .returned (.tuple #[.int .i64 0, .int .i64 200]) ∧ Kept w w' := by
  have k0 : Kept w ((w.alloc (.cells #[.slice ca nc cc, .slice ta nt tc] 30)).alloc (.cells #[.int .i64 n, .int .i64 v, .slice xa ns xc] 45)) := (Kept.alloc (Below.refl _ _) _).alloc _
  go_enter Tryd.func37, Tryd.ntmps37
  go_wp2_with fail
  refine bodyPost_ret (v := .tuple #[.int .i64 0, .int .i64 200]) (by simp [results, Tryd.results37, go_sem]) rfl ⟨rfl, k0⟩
set_option maxHeartbeats 4000000 in
set_option maxRecDepth 100000 in
theorem bounds_6 (w : World) (ca ta xa : Option Addr) (cc tc xc nc nt ns : Nat) (n v : Int) (hnc : nc ≤ 1048576) (hnt : nt ≤ 1048576) (hns : ns ≤ 1048576) :
    Calls Tryd.prog 37 #[.int .i64 6, .agg #[.slice ca nc cc, .slice ta nt tc], .agg #[.int .i64 n, .int .i64 v, .slice xa ns xc]] w fun e w' => e = .returned (.tuple #[.int .i64 0, .int .i64 ((ns : Int) - 1)]) ∧ Kept w w' := by
  have k0 : Kept w ((w.alloc (.cells #[.slice ca nc cc, .slice ta nt tc] 30)).alloc (.cells #[.int .i64 n, .int .i64 v, .slice xa ns xc] 45)) := (Kept.alloc (Below.refl _ _) _).alloc _
  go_enter Tryd.func37, Tryd.ntmps37
  go_wp2_with fail
  go_region
  all_goals (
    go_wp2_with fail
    refine bodyPost_ret (v := .tuple #[.int .i64 0, .int .i64 ((ns : Int) - 1)]) (by simp [results, Tryd.results37, go_sem]) rfl ⟨rfl, k0.drew⟩)
set_option maxHeartbeats 4000000 in
set_option maxRecDepth 100000 in
theorem bounds_7 (w : World) (ca ta xa : Option Addr) (cc tc xc nc nt ns : Nat) (n v : Int) (hnc : nc ≤ 1048576) (hnt : nt ≤ 1048576) (hns : ns ≤ 1048576) :
    Calls Tryd.prog 37 #[.int .i64 7, .agg #[.slice ca nc cc, .slice ta nt tc], .agg #[.int .i64 n, .int .i64 v, .slice xa ns xc]] w fun e w' => e = .returned (.tuple #[.int .i64 0, .int .i64 ((nc : Int) - 1)]) ∧ Kept w w' := by
  have k0 : Kept w ((w.alloc (.cells #[.slice ca nc cc, .slice ta nt tc] 30)).alloc (.cells #[.int .i64 n, .int .i64 v, .slice xa ns xc] 45)) := (Kept.alloc (Below.refl _ _) _).alloc _
  go_enter Tryd.func37, Tryd.ntmps37
  go_wp2_with fail
  go_region
  all_goals (
    go_wp2_with fail
    refine bodyPost_ret (v := .tuple #[.int .i64 0, .int .i64 ((nc : Int) - 1)]) (by simp [results, Tryd.results37, go_sem]) rfl ⟨rfl, k0.drew⟩)
set_option maxHeartbeats 4000000 in
set_option maxRecDepth 100000 in
theorem bounds_0 (w : World) (ca ta xa : Option Addr) (cc tc xc nc nt ns : Nat) (n v : Int) (hnc : nc ≤ 1048576) (hnt : nt ≤ 1048576) (hns : ns ≤ 1048576) (k : Int) (h1 : (k == 1) = false) (h2 : (k == 2) = false) (h3 : (k == 3) = false) (h4 : (k == 4) = false) (h5 : (k == 5) = false) (h6 : (k == 6) = false) (h7 : (k == 7) = false) :
    Calls Tryd.prog 37 #[.int .i64 k, .agg #[.slice ca nc cc, .slice ta nt tc], .agg #[.int .i64 n, .int .i64 v, .slice xa ns xc]] w fun e w' => e = .returned (.tuple #[.int .i64 0, .int .i64 0]) ∧ Kept w w' := by
  have k0 : Kept w ((w.alloc (.cells #[.slice ca nc cc, .slice ta nt tc] 30)).alloc (.cells #[.int .i64 n, .int .i64 v, .slice xa ns xc] 45)) := (Kept.alloc (Below.refl _ _) _).alloc _
  go_enter Tryd.func37, Tryd.ntmps37
  go_wp2_with fail
  refine bodyPost_ret (v := .tuple #[.int .i64 0, .int .i64 0]) (by simp [results, Tryd.results37, go_sem]) rfl ⟨rfl, k0⟩
theorem bounds_ok (w : World) (ca ta xa : Option Addr) (cc tc xc nc nt ns : Nat) (n v : Int) (hnc : nc ≤ 1048576) (hnt : nt ≤ 1048576) (hns : ns ≤ 1048576) (k : Int) :
    Calls Tryd.prog 37 #[.int .i64 k, .agg #[.slice ca nc cc, .slice ta nt tc], .agg #[.int .i64 n, .int .i64 v, .slice xa ns xc]] w fun e w' => e = .returned (.tuple #[.int .i64 (bndR k nt nc ns).1, .int .i64 (bndR k nt nc ns).2]) ∧ Kept w w' := by
  by_cases h1 : k = 1
  · subst h1
    exact bounds_1 w ca ta xa cc tc xc nc nt ns n v hnc hnt hns
  by_cases h2 : k = 2
  · subst h2
    exact bounds_2 w ca ta xa cc tc xc nc nt ns n v hnc hnt hns
  by_cases h3 : k = 3
  · subst h3
    exact bounds_3 w ca ta xa cc tc xc nc nt ns n v hnc hnt hns
  by_cases h4 : k = 4
  · subst h4
    exact bounds_4 w ca ta xa cc tc xc nc nt ns n v hnc hnt hns
  by_cases h5 : k = 5
  · subst h5
    exact bounds_5 w ca ta xa cc tc xc nc nt ns n v hnc hnt hns
  by_cases h6 : k = 6
  · subst h6
    exact bounds_6 w ca ta xa cc tc xc nc nt ns n v hnc hnt hns
  by_cases h7 : k = 7
  · subst h7
    exact bounds_7 w ca ta xa cc tc xc nc nt ns n v hnc hnt hns
  have e : bndR k nt nc ns = (0, 0) := by simp only [bndR, if_neg h1, if_neg h2, if_neg h3, if_neg h4, if_neg h5, if_neg h6, if_neg h7]
  rw [e]
  exact bounds_0 w ca ta xa cc tc xc nc nt ns n v hnc hnt hns k (by simpa using h1) (by simpa using h2) (by simpa using h3) (by simpa using h4) (by simpa using h5) (by simpa using h6) (by simpa using h7)
set_option maxHeartbeats 4000000 in
set_option maxRecDepth 100000 in
theorem fits_ok (w : World) (ca ta xa : Option Addr) (cc tc xc nc nt ns : Nat) (n v : Int) (hnc : nc ≤ 1048576) (hnt : nt ≤ 1048576) (hns : ns ≤ 1048576) (k m : Int) :
    Calls Tryd.prog 34 #[.int .i64 k, .int .i64 m, .agg #[.slice ca nc cc, .slice ta nt tc], .agg #[.int .i64 n, .int .i64 v, .slice xa ns xc]] w fun e w' => e = .returned (.bool (fitR k m nt nc ns)) ∧ Kept w w' := by
  have k0 : Kept w ((w.alloc (.cells #[.slice ca nc cc, .slice ta nt tc] 30)).alloc (.cells #[.int .i64 n, .int .i64 v, .slice xa ns xc] 45)) := (Kept.alloc (Below.refl _ _) _).alloc _
  have hC := bounds_ok ((w.alloc (.cells #[.slice ca nc cc, .slice ta nt tc] 30)).alloc (.cells #[.int .i64 n, .int .i64 v, .slice xa ns xc] 45)) ca ta xa cc tc xc nc nt ns n v hnc hnt hns k
  have HF : Hid (fitR k m nt nc ns = decide ((bndR k nt nc ns).1 ≤ m ∧ m ≤ (bndR k nt nc ns).2)) := rfl
  obtain ⟨⟨lo, hi⟩, hb⟩ : ∃ b, bndR k nt nc ns = b := ⟨_, rfl⟩
  rw [hb] at hC HF
  simp only at hC HF
  clear hb hnc hnt hns
  by_cases h1 : lo ≤ m
  · have HE : Hid (fitR k m nt nc ns = decide (m ≤ hi)) := by rw [Hid, HF.out]; simp [h1]
    go_enter Tryd.func34, Tryd.ntmps34
    go_wp2_with (go_at_call 37; refine hC.mono ?_; rintro e w1 ⟨rfl, hk1⟩)
    go_ret
    exact ⟨by rw [HE.out]; rfl, Kept.trans k0 hk1⟩
  · have HE : Hid (fitR k m nt nc ns = false) := by rw [Hid, HF.out]; exact decide_eq_false (fun h => h1 h.1)
    go_enter Tryd.func34, Tryd.ntmps34
    go_wp2_with (go_at_call 37; refine hC.mono ?_; rintro e w1 ⟨rfl, hk1⟩)
    go_ret
    exact ⟨by rw [HE.out]; rfl, Kept.trans k0 hk1⟩
end Go.Proofs.YtjagnmajnlcahaaDoor
