/-
  spec.StepText exactly, op by op (chapter 15).
-/
import Derived.Test.YthmabhglmgnamaaDoorFmsB
import Derived.Deep.CutRange
namespace Go.Proofs.YthmabhglmgnamaaDoor
open Go.RowKit
set_option linter.unusedSimpArgs false
set_option linter.unusedVariables false
set_option maxHeartbeats 4000000 in
set_option maxRecDepth 100000 in
theorem specStep_1 (w : World) (a b : Int) (ha : -9223372036854775808 ≤ a ∧ a ≤ 9223372036854775807) (hb : -9223372036854775808 ≤ b ∧ b ≤ 9223372036854775807) :
    Calls Tryd.prog 23 #[.agg #[.int .i64 1, .int .i64 a, .int .i64 b]] w fun e w' => e = .returned (.string ((⟨#[105, 110, 116]⟩ ++ ⟨#[32]⟩) ++ numT a)) ∧ Kept w w' := by
  have k0 : Kept w (w.alloc (.cells #[.int .i64 1, .int .i64 a, .int .i64 b] 55)) := Kept.alloc (Below.refl _ _) _
  have b0 := Cells.new w 55 #[.int .i64 1, .int .i64 a, .int .i64 b]
  have hI := l1InS_yes 1 1 25 (w.alloc (.cells #[.int .i64 1, .int .i64 a, .int .i64 b] 55)) (by decide) (by decide)
  have HIa : Hid (∀ u, Calls Tryd.prog 22 #[.int .i64 a] u fun e w' => e = .returned (.string (numT a)) ∧ Kept u w') := fun u => l7Digits_ok u a ha
  have hza := numT_size ha
  obtain ⟨na, hna⟩ : ∃ t, numT a = t := ⟨_, rfl⟩
  rw [hna] at HIa hza
  simp only [hna]
  have p0 : ¬ 9223372036854775807 < 4 + na.size := by omega
  clear hna
  have kd : Kept w (w.alloc (.cells #[.int .i64 1, .int .i64 a, .int .i64 b] 55)).drew := k0.drew
  have bd := b0.kept ((Below.refl _ (w.alloc (.cells #[.int .i64 1, .int .i64 a, .int .i64 b] 55))).drew)
  have d0 := bd.cell 0
  have hN := l15Names_ok (w.alloc (.cells #[.int .i64 1, .int .i64 a, .int .i64 b] 55)).drew
  clear ha hb
  go_enter Tryd.func23, Tryd.ntmps23
  go_wp2_with (go_at_call 40; refine hI.mono ?_; rintro e wx ⟨rfl, rfl⟩)
  go_region_with (go_at_call 43; refine hN.mono ?_; rintro e w1 ⟨g, rfl, hc, hk1⟩; have c0 : w1.cell? ⟨g, 1, none⟩ = some (.string ⟨#[105, 110, 116]⟩) := ((hc.cell 1).trans rfl); have m := bd.kept hk1; have m0 := m.cell 0; have m1 := m.cell 1; have m2 := m.cell 2)
  all_goals (
    go_simp
    go_wp2_with (go_at_call 22; refine (HIa.out _).mono ?_; rintro e w2 ⟨rfl, hk2⟩)
    go_ret
    exact ⟨rfl, Kept.trans (Kept.trans kd hk1) hk2⟩)
set_option maxHeartbeats 4000000 in
set_option maxRecDepth 100000 in
theorem specStep_2 (w : World) (a b : Int) (ha : -9223372036854775808 ≤ a ∧ a ≤ 9223372036854775807) (hb : -9223372036854775808 ≤ b ∧ b ≤ 9223372036854775807) :
    Calls Tryd.prog 23 #[.agg #[.int .i64 2, .int .i64 a, .int .i64 b]] w fun e w' => e = .returned (.string ((⟨#[116, 101, 120, 116]⟩ ++ ⟨#[32]⟩) ++ numT a)) ∧ Kept w w' := by
  have k0 : Kept w (w.alloc (.cells #[.int .i64 2, .int .i64 a, .int .i64 b] 55)) := Kept.alloc (Below.refl _ _) _
  have b0 := Cells.new w 55 #[.int .i64 2, .int .i64 a, .int .i64 b]
  have hI := l1InS_yes 2 1 25 (w.alloc (.cells #[.int .i64 2, .int .i64 a, .int .i64 b] 55)) (by decide) (by decide)
  have HIa : Hid (∀ u, Calls Tryd.prog 22 #[.int .i64 a] u fun e w' => e = .returned (.string (numT a)) ∧ Kept u w') := fun u => l7Digits_ok u a ha
  have hza := numT_size ha
  obtain ⟨na, hna⟩ : ∃ t, numT a = t := ⟨_, rfl⟩
  rw [hna] at HIa hza
  simp only [hna]
  have p0 : ¬ 9223372036854775807 < 5 + na.size := by omega
  clear hna
  have kd : Kept w (w.alloc (.cells #[.int .i64 2, .int .i64 a, .int .i64 b] 55)).drew := k0.drew
  have bd := b0.kept ((Below.refl _ (w.alloc (.cells #[.int .i64 2, .int .i64 a, .int .i64 b] 55))).drew)
  have d0 := bd.cell 0
  have hN := l15Names_ok (w.alloc (.cells #[.int .i64 2, .int .i64 a, .int .i64 b] 55)).drew
  clear ha hb
  go_enter Tryd.func23, Tryd.ntmps23
  go_wp2_with (go_at_call 40; refine hI.mono ?_; rintro e wx ⟨rfl, rfl⟩)
  go_region_with (go_at_call 43; refine hN.mono ?_; rintro e w1 ⟨g, rfl, hc, hk1⟩; have c0 : w1.cell? ⟨g, 2, none⟩ = some (.string ⟨#[116, 101, 120, 116]⟩) := ((hc.cell 2).trans rfl); have m := bd.kept hk1; have m0 := m.cell 0; have m1 := m.cell 1; have m2 := m.cell 2)
  all_goals (
    go_simp
    go_wp2_with (go_at_call 22; refine (HIa.out _).mono ?_; rintro e w2 ⟨rfl, hk2⟩)
    go_ret
    exact ⟨rfl, Kept.trans (Kept.trans kd hk1) hk2⟩)
set_option maxHeartbeats 4000000 in
set_option maxRecDepth 100000 in
theorem specStep_9 (w : World) (a b : Int) (ha : -9223372036854775808 ≤ a ∧ a ≤ 9223372036854775807) (hb : -9223372036854775808 ≤ b ∧ b ≤ 9223372036854775807) :
    Calls Tryd.prog 23 #[.agg #[.int .i64 9, .int .i64 a, .int .i64 b]] w fun e w' => e = .returned (.string ((⟨#[103, 101, 116]⟩ ++ ⟨#[32]⟩) ++ numT a)) ∧ Kept w w' := by
  have k0 : Kept w (w.alloc (.cells #[.int .i64 9, .int .i64 a, .int .i64 b] 55)) := Kept.alloc (Below.refl _ _) _
  have b0 := Cells.new w 55 #[.int .i64 9, .int .i64 a, .int .i64 b]
  have hI := l1InS_yes 9 1 25 (w.alloc (.cells #[.int .i64 9, .int .i64 a, .int .i64 b] 55)) (by decide) (by decide)
  have HIa : Hid (∀ u, Calls Tryd.prog 22 #[.int .i64 a] u fun e w' => e = .returned (.string (numT a)) ∧ Kept u w') := fun u => l7Digits_ok u a ha
  have hza := numT_size ha
  obtain ⟨na, hna⟩ : ∃ t, numT a = t := ⟨_, rfl⟩
  rw [hna] at HIa hza
  simp only [hna]
  have p0 : ¬ 9223372036854775807 < 4 + na.size := by omega
  clear hna
  have kd : Kept w (w.alloc (.cells #[.int .i64 9, .int .i64 a, .int .i64 b] 55)).drew := k0.drew
  have bd := b0.kept ((Below.refl _ (w.alloc (.cells #[.int .i64 9, .int .i64 a, .int .i64 b] 55))).drew)
  have d0 := bd.cell 0
  have hN := l15Names_ok (w.alloc (.cells #[.int .i64 9, .int .i64 a, .int .i64 b] 55)).drew
  clear ha hb
  go_enter Tryd.func23, Tryd.ntmps23
  go_wp2_with (go_at_call 40; refine hI.mono ?_; rintro e wx ⟨rfl, rfl⟩)
  go_region_with (go_at_call 43; refine hN.mono ?_; rintro e w1 ⟨g, rfl, hc, hk1⟩; have c0 : w1.cell? ⟨g, 9, none⟩ = some (.string ⟨#[103, 101, 116]⟩) := ((hc.cell 9).trans rfl); have m := bd.kept hk1; have m0 := m.cell 0; have m1 := m.cell 1; have m2 := m.cell 2)
  all_goals (
    go_simp
    go_wp2_with (go_at_call 22; refine (HIa.out _).mono ?_; rintro e w2 ⟨rfl, hk2⟩)
    go_ret
    exact ⟨rfl, Kept.trans (Kept.trans kd hk1) hk2⟩)
set_option maxHeartbeats 4000000 in
set_option maxRecDepth 100000 in
theorem specStep_10 (w : World) (a b : Int) (ha : -9223372036854775808 ≤ a ∧ a ≤ 9223372036854775807) (hb : -9223372036854775808 ≤ b ∧ b ≤ 9223372036854775807) :
    Calls Tryd.prog 23 #[.agg #[.int .i64 10, .int .i64 a, .int .i64 b]] w fun e w' => e = .returned (.string ((⟨#[112, 117, 116]⟩ ++ ⟨#[32]⟩) ++ numT a)) ∧ Kept w w' := by
  have k0 : Kept w (w.alloc (.cells #[.int .i64 10, .int .i64 a, .int .i64 b] 55)) := Kept.alloc (Below.refl _ _) _
  have b0 := Cells.new w 55 #[.int .i64 10, .int .i64 a, .int .i64 b]
  have hI := l1InS_yes 10 1 25 (w.alloc (.cells #[.int .i64 10, .int .i64 a, .int .i64 b] 55)) (by decide) (by decide)
  have HIa : Hid (∀ u, Calls Tryd.prog 22 #[.int .i64 a] u fun e w' => e = .returned (.string (numT a)) ∧ Kept u w') := fun u => l7Digits_ok u a ha
  have hza := numT_size ha
  obtain ⟨na, hna⟩ : ∃ t, numT a = t := ⟨_, rfl⟩
  rw [hna] at HIa hza
  simp only [hna]
  have p0 : ¬ 9223372036854775807 < 4 + na.size := by omega
  clear hna
  have kd : Kept w (w.alloc (.cells #[.int .i64 10, .int .i64 a, .int .i64 b] 55)).drew := k0.drew
  have bd := b0.kept ((Below.refl _ (w.alloc (.cells #[.int .i64 10, .int .i64 a, .int .i64 b] 55))).drew)
  have d0 := bd.cell 0
  have hN := l15Names_ok (w.alloc (.cells #[.int .i64 10, .int .i64 a, .int .i64 b] 55)).drew
  clear ha hb
  go_enter Tryd.func23, Tryd.ntmps23
  go_wp2_with (go_at_call 40; refine hI.mono ?_; rintro e wx ⟨rfl, rfl⟩)
  go_region_with (go_at_call 43; refine hN.mono ?_; rintro e w1 ⟨g, rfl, hc, hk1⟩; have c0 : w1.cell? ⟨g, 10, none⟩ = some (.string ⟨#[112, 117, 116]⟩) := ((hc.cell 10).trans rfl); have m := bd.kept hk1; have m0 := m.cell 0; have m1 := m.cell 1; have m2 := m.cell 2)
  all_goals (
    go_simp
    go_wp2_with (go_at_call 22; refine (HIa.out _).mono ?_; rintro e w2 ⟨rfl, hk2⟩)
    go_ret
    exact ⟨rfl, Kept.trans (Kept.trans kd hk1) hk2⟩)
set_option maxHeartbeats 4000000 in
set_option maxRecDepth 100000 in
theorem specStep_12 (w : World) (a b : Int) (ha : -9223372036854775808 ≤ a ∧ a ≤ 9223372036854775807) (hb : -9223372036854775808 ≤ b ∧ b ≤ 9223372036854775807) :
    Calls Tryd.prog 23 #[.agg #[.int .i64 12, .int .i64 a, .int .i64 b]] w fun e w' => e = .returned (.string ((⟨#[99, 97, 108, 108]⟩ ++ ⟨#[32]⟩) ++ numT a)) ∧ Kept w w' := by
  have k0 : Kept w (w.alloc (.cells #[.int .i64 12, .int .i64 a, .int .i64 b] 55)) := Kept.alloc (Below.refl _ _) _
  have b0 := Cells.new w 55 #[.int .i64 12, .int .i64 a, .int .i64 b]
  have hI := l1InS_yes 12 1 25 (w.alloc (.cells #[.int .i64 12, .int .i64 a, .int .i64 b] 55)) (by decide) (by decide)
  have HIa : Hid (∀ u, Calls Tryd.prog 22 #[.int .i64 a] u fun e w' => e = .returned (.string (numT a)) ∧ Kept u w') := fun u => l7Digits_ok u a ha
  have hza := numT_size ha
  obtain ⟨na, hna⟩ : ∃ t, numT a = t := ⟨_, rfl⟩
  rw [hna] at HIa hza
  simp only [hna]
  have p0 : ¬ 9223372036854775807 < 5 + na.size := by omega
  clear hna
  have kd : Kept w (w.alloc (.cells #[.int .i64 12, .int .i64 a, .int .i64 b] 55)).drew := k0.drew
  have bd := b0.kept ((Below.refl _ (w.alloc (.cells #[.int .i64 12, .int .i64 a, .int .i64 b] 55))).drew)
  have d0 := bd.cell 0
  have hN := l15Names_ok (w.alloc (.cells #[.int .i64 12, .int .i64 a, .int .i64 b] 55)).drew
  clear ha hb
  go_enter Tryd.func23, Tryd.ntmps23
  go_wp2_with (go_at_call 40; refine hI.mono ?_; rintro e wx ⟨rfl, rfl⟩)
  go_region_with (go_at_call 43; refine hN.mono ?_; rintro e w1 ⟨g, rfl, hc, hk1⟩; have c0 : w1.cell? ⟨g, 12, none⟩ = some (.string ⟨#[99, 97, 108, 108]⟩) := ((hc.cell 12).trans rfl); have m := bd.kept hk1; have m0 := m.cell 0; have m1 := m.cell 1; have m2 := m.cell 2)
  all_goals (
    go_simp
    go_wp2_with (go_at_call 22; refine (HIa.out _).mono ?_; rintro e w2 ⟨rfl, hk2⟩)
    go_ret
    exact ⟨rfl, Kept.trans (Kept.trans kd hk1) hk2⟩)
end Go.Proofs.YthmabhglmgnamaaDoor
