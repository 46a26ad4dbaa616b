/-
  spec.StepText exactly, op by op (chapter 15).
-/
import Derived.Test.YthmabhglmgnamaaDoorFmsB
import Derived.Deep.CutRange
namespace Go.Proofs.YthmabhglmgnamaaDoor
open Go.RowKit
set_option linter.unusedSimpArgs false
set_option linter.unusedVariables false
set_option maxHeartbeats 4000000 in
set_option maxRecDepth 100000 in
theorem specStep_20 (w : World) (a b : Int) (ha : -9223372036854775808 ≤ a ∧ a ≤ 9223372036854775807) (hb : -9223372036854775808 ≤ b ∧ b ≤ 9223372036854775807) :
    Calls Tryd.prog 23 #[.agg #[.int .i64 20, .int .i64 a, .int .i64 b]] w fun e w' => e = .returned (.string ((⟨#[106, 117, 109, 112]⟩ ++ ⟨#[32]⟩) ++ numT a)) ∧ Kept w w' := by
  have k0 : Kept w (w.alloc (.cells #[.int .i64 20, .int .i64 a, .int .i64 b] 55)) := Kept.alloc (Below.refl _ _) _
  have b0 := Cells.new w 55 #[.int .i64 20, .int .i64 a, .int .i64 b]
  have hI := l1InS_yes 20 1 25 (w.alloc (.cells #[.int .i64 20, .int .i64 a, .int .i64 b] 55)) (by decide) (by decide)
  have HIa : Hid (∀ u, Calls Tryd.prog 22 #[.int .i64 a] u fun e w' => e = .returned (.string (numT a)) ∧ Kept u w') := fun u => l7Digits_ok u a ha
  have hza := numT_size ha
  obtain ⟨na, hna⟩ : ∃ t, numT a = t := ⟨_, rfl⟩
  rw [hna] at HIa hza
  simp only [hna]
  have p0 : ¬ 9223372036854775807 < 5 + na.size := by omega
  clear hna
  have kd : Kept w (w.alloc (.cells #[.int .i64 20, .int .i64 a, .int .i64 b] 55)).drew := k0.drew
  have bd := b0.kept ((Below.refl _ (w.alloc (.cells #[.int .i64 20, .int .i64 a, .int .i64 b] 55))).drew)
  have d0 := bd.cell 0
  have hN := l15Names_ok (w.alloc (.cells #[.int .i64 20, .int .i64 a, .int .i64 b] 55)).drew
  clear ha hb
  go_enter Tryd.func23, Tryd.ntmps23
  go_wp2_with (go_at_call 40; refine hI.mono ?_; rintro e wx ⟨rfl, rfl⟩)
  go_region_with (go_at_call 43; refine hN.mono ?_; rintro e w1 ⟨g, rfl, hc, hk1⟩; have c0 : w1.cell? ⟨g, 20, none⟩ = some (.string ⟨#[106, 117, 109, 112]⟩) := ((hc.cell 20).trans rfl); have m := bd.kept hk1; have m0 := m.cell 0; have m1 := m.cell 1; have m2 := m.cell 2)
  all_goals (
    go_simp
    go_wp2_with (go_at_call 22; refine (HIa.out _).mono ?_; rintro e w2 ⟨rfl, hk2⟩)
    go_ret
    exact ⟨rfl, Kept.trans (Kept.trans kd hk1) hk2⟩)
set_option maxHeartbeats 4000000 in
set_option maxRecDepth 100000 in
theorem specStep_21 (w : World) (a b : Int) (ha : -9223372036854775808 ≤ a ∧ a ≤ 9223372036854775807) (hb : -9223372036854775808 ≤ b ∧ b ≤ 9223372036854775807) :
    Calls Tryd.prog 23 #[.agg #[.int .i64 21, .int .i64 a, .int .i64 b]] w fun e w' => e = .returned (.string ((⟨#[101, 108, 115, 101]⟩ ++ ⟨#[32]⟩) ++ numT a)) ∧ Kept w w' := by
  have k0 : Kept w (w.alloc (.cells #[.int .i64 21, .int .i64 a, .int .i64 b] 55)) := Kept.alloc (Below.refl _ _) _
  have b0 := Cells.new w 55 #[.int .i64 21, .int .i64 a, .int .i64 b]
  have hI := l1InS_yes 21 1 25 (w.alloc (.cells #[.int .i64 21, .int .i64 a, .int .i64 b] 55)) (by decide) (by decide)
  have HIa : Hid (∀ u, Calls Tryd.prog 22 #[.int .i64 a] u fun e w' => e = .returned (.string (numT a)) ∧ Kept u w') := fun u => l7Digits_ok u a ha
  have hza := numT_size ha
  obtain ⟨na, hna⟩ : ∃ t, numT a = t := ⟨_, rfl⟩
  rw [hna] at HIa hza
  simp only [hna]
  have p0 : ¬ 9223372036854775807 < 5 + na.size := by omega
  clear hna
  have kd : Kept w (w.alloc (.cells #[.int .i64 21, .int .i64 a, .int .i64 b] 55)).drew := k0.drew
  have bd := b0.kept ((Below.refl _ (w.alloc (.cells #[.int .i64 21, .int .i64 a, .int .i64 b] 55))).drew)
  have d0 := bd.cell 0
  have hN := l15Names_ok (w.alloc (.cells #[.int .i64 21, .int .i64 a, .int .i64 b] 55)).drew
  clear ha hb
  go_enter Tryd.func23, Tryd.ntmps23
  go_wp2_with (go_at_call 40; refine hI.mono ?_; rintro e wx ⟨rfl, rfl⟩)
  go_region_with (go_at_call 43; refine hN.mono ?_; rintro e w1 ⟨g, rfl, hc, hk1⟩; have c0 : w1.cell? ⟨g, 21, none⟩ = some (.string ⟨#[101, 108, 115, 101]⟩) := ((hc.cell 21).trans rfl); have m := bd.kept hk1; have m0 := m.cell 0; have m1 := m.cell 1; have m2 := m.cell 2)
  all_goals (
    go_simp
    go_wp2_with (go_at_call 22; refine (HIa.out _).mono ?_; rintro e w2 ⟨rfl, hk2⟩)
    go_ret
    exact ⟨rfl, Kept.trans (Kept.trans kd hk1) hk2⟩)
set_option maxHeartbeats 4000000 in
set_option maxRecDepth 100000 in
theorem specStep_24 (w : World) (a b : Int) (ha : -9223372036854775808 ≤ a ∧ a ≤ 9223372036854775807) (hb : -9223372036854775808 ≤ b ∧ b ≤ 9223372036854775807) :
    Calls Tryd.prog 23 #[.agg #[.int .i64 24, .int .i64 a, .int .i64 b]] w fun e w' => e = .returned (.string ((⟨#[102, 117, 110]⟩ ++ ⟨#[32]⟩) ++ numT a)) ∧ Kept w w' := by
  have k0 : Kept w (w.alloc (.cells #[.int .i64 24, .int .i64 a, .int .i64 b] 55)) := Kept.alloc (Below.refl _ _) _
  have b0 := Cells.new w 55 #[.int .i64 24, .int .i64 a, .int .i64 b]
  have hI := l1InS_yes 24 1 25 (w.alloc (.cells #[.int .i64 24, .int .i64 a, .int .i64 b] 55)) (by decide) (by decide)
  have HIa : Hid (∀ u, Calls Tryd.prog 22 #[.int .i64 a] u fun e w' => e = .returned (.string (numT a)) ∧ Kept u w') := fun u => l7Digits_ok u a ha
  have hza := numT_size ha
  obtain ⟨na, hna⟩ : ∃ t, numT a = t := ⟨_, rfl⟩
  rw [hna] at HIa hza
  simp only [hna]
  have p0 : ¬ 9223372036854775807 < 4 + na.size := by omega
  clear hna
  have kd : Kept w (w.alloc (.cells #[.int .i64 24, .int .i64 a, .int .i64 b] 55)).drew := k0.drew
  have bd := b0.kept ((Below.refl _ (w.alloc (.cells #[.int .i64 24, .int .i64 a, .int .i64 b] 55))).drew)
  have d0 := bd.cell 0
  have hN := l15Names_ok (w.alloc (.cells #[.int .i64 24, .int .i64 a, .int .i64 b] 55)).drew
  clear ha hb
  go_enter Tryd.func23, Tryd.ntmps23
  go_wp2_with (go_at_call 40; refine hI.mono ?_; rintro e wx ⟨rfl, rfl⟩)
  go_region_with (go_at_call 43; refine hN.mono ?_; rintro e w1 ⟨g, rfl, hc, hk1⟩; have c0 : w1.cell? ⟨g, 24, none⟩ = some (.string ⟨#[102, 117, 110]⟩) := ((hc.cell 24).trans rfl); have m := bd.kept hk1; have m0 := m.cell 0; have m1 := m.cell 1; have m2 := m.cell 2)
  all_goals (
    go_simp
    go_wp2_with (go_at_call 22; refine (HIa.out _).mono ?_; rintro e w2 ⟨rfl, hk2⟩)
    go_ret
    exact ⟨rfl, Kept.trans (Kept.trans kd hk1) hk2⟩)
set_option maxHeartbeats 4000000 in
set_option maxRecDepth 100000 in
theorem specStep_25 (w : World) (a b : Int) (ha : -9223372036854775808 ≤ a ∧ a ≤ 9223372036854775807) (hb : -9223372036854775808 ≤ b ∧ b ≤ 9223372036854775807) :
    Calls Tryd.prog 23 #[.agg #[.int .i64 25, .int .i64 a, .int .i64 b]] w fun e w' => e = .returned (.string ((⟨#[102, 105, 101, 108, 100]⟩ ++ ⟨#[32]⟩) ++ numT a)) ∧ Kept w w' := by
  have k0 : Kept w (w.alloc (.cells #[.int .i64 25, .int .i64 a, .int .i64 b] 55)) := Kept.alloc (Below.refl _ _) _
  have b0 := Cells.new w 55 #[.int .i64 25, .int .i64 a, .int .i64 b]
  have hI := l1InS_yes 25 1 25 (w.alloc (.cells #[.int .i64 25, .int .i64 a, .int .i64 b] 55)) (by decide) (by decide)
  have HIa : Hid (∀ u, Calls Tryd.prog 22 #[.int .i64 a] u fun e w' => e = .returned (.string (numT a)) ∧ Kept u w') := fun u => l7Digits_ok u a ha
  have hza := numT_size ha
  obtain ⟨na, hna⟩ : ∃ t, numT a = t := ⟨_, rfl⟩
  rw [hna] at HIa hza
  simp only [hna]
  have p0 : ¬ 9223372036854775807 < 6 + na.size := by omega
  clear hna
  have kd : Kept w (w.alloc (.cells #[.int .i64 25, .int .i64 a, .int .i64 b] 55)).drew := k0.drew
  have bd := b0.kept ((Below.refl _ (w.alloc (.cells #[.int .i64 25, .int .i64 a, .int .i64 b] 55))).drew)
  have d0 := bd.cell 0
  have hN := l15Names_ok (w.alloc (.cells #[.int .i64 25, .int .i64 a, .int .i64 b] 55)).drew
  clear ha hb
  go_enter Tryd.func23, Tryd.ntmps23
  go_wp2_with (go_at_call 40; refine hI.mono ?_; rintro e wx ⟨rfl, rfl⟩)
  go_region_with (go_at_call 43; refine hN.mono ?_; rintro e w1 ⟨g, rfl, hc, hk1⟩; have c0 : w1.cell? ⟨g, 25, none⟩ = some (.string ⟨#[102, 105, 101, 108, 100]⟩) := ((hc.cell 25).trans rfl); have m := bd.kept hk1; have m0 := m.cell 0; have m1 := m.cell 1; have m2 := m.cell 2)
  all_goals (
    go_simp
    go_wp2_with (go_at_call 22; refine (HIa.out _).mono ?_; rintro e w2 ⟨rfl, hk2⟩)
    go_ret
    exact ⟨rfl, Kept.trans (Kept.trans kd hk1) hk2⟩)
end Go.Proofs.YthmabhglmgnamaaDoor
