/-
  spec.StepText exactly, op by op (chapter 15).
-/
import Derived.Test.YthmabhglmgnamaaDoorFmsB
import Derived.Deep.CutRange
namespace Go.Proofs.YthmabhglmgnamaaDoor
open Go.RowKit
set_option linter.unusedSimpArgs false
set_option linter.unusedVariables false
set_option maxHeartbeats 4000000 in
set_option maxRecDepth 100000 in
theorem specStep_3 (w : World) (a b : Int) (ha : -9223372036854775808 ≤ a ∧ a ≤ 9223372036854775807) (hb : -9223372036854775808 ≤ b ∧ b ≤ 9223372036854775807) :
    Calls Tryd.prog 23 #[.agg #[.int .i64 3, .int .i64 a, .int .i64 b]] w fun e w' => e = .returned (.string (⟨#[117, 110, 100, 101, 102]⟩)) ∧ Kept w w' := by
  have k0 : Kept w (w.alloc (.cells #[.int .i64 3, .int .i64 a, .int .i64 b] 55)) := Kept.alloc (Below.refl _ _) _
  have b0 := Cells.new w 55 #[.int .i64 3, .int .i64 a, .int .i64 b]
  have hI := l1InS_yes 3 1 25 (w.alloc (.cells #[.int .i64 3, .int .i64 a, .int .i64 b] 55)) (by decide) (by decide)
  have kd : Kept w (w.alloc (.cells #[.int .i64 3, .int .i64 a, .int .i64 b] 55)).drew := k0.drew
  have bd := b0.kept ((Below.refl _ (w.alloc (.cells #[.int .i64 3, .int .i64 a, .int .i64 b] 55))).drew)
  have d0 := bd.cell 0
  have hN := l15Names_ok (w.alloc (.cells #[.int .i64 3, .int .i64 a, .int .i64 b] 55)).drew
  clear ha hb
  go_enter Tryd.func23, Tryd.ntmps23
  go_wp2_with (go_at_call 40; refine hI.mono ?_; rintro e wx ⟨rfl, rfl⟩)
  go_region_with (go_at_call 43; refine hN.mono ?_; rintro e w1 ⟨g, rfl, hc, hk1⟩; have c0 : w1.cell? ⟨g, 3, none⟩ = some (.string ⟨#[117, 110, 100, 101, 102]⟩) := ((hc.cell 3).trans rfl); have m := bd.kept hk1; have m0 := m.cell 0; have m1 := m.cell 1; have m2 := m.cell 2)
  all_goals (
    go_simp
    go_wp2_with fail
    go_ret
    exact ⟨rfl, kd.trans hk1⟩)
set_option maxHeartbeats 4000000 in
set_option maxRecDepth 100000 in
theorem specStep_4 (w : World) (a b : Int) (ha : -9223372036854775808 ≤ a ∧ a ≤ 9223372036854775807) (hb : -9223372036854775808 ≤ b ∧ b ≤ 9223372036854775807) :
    Calls Tryd.prog 23 #[.agg #[.int .i64 4, .int .i64 a, .int .i64 b]] w fun e w' => e = .returned (.string (⟨#[110, 117, 108, 108]⟩)) ∧ Kept w w' := by
  have k0 : Kept w (w.alloc (.cells #[.int .i64 4, .int .i64 a, .int .i64 b] 55)) := Kept.alloc (Below.refl _ _) _
  have b0 := Cells.new w 55 #[.int .i64 4, .int .i64 a, .int .i64 b]
  have hI := l1InS_yes 4 1 25 (w.alloc (.cells #[.int .i64 4, .int .i64 a, .int .i64 b] 55)) (by decide) (by decide)
  have kd : Kept w (w.alloc (.cells #[.int .i64 4, .int .i64 a, .int .i64 b] 55)).drew := k0.drew
  have bd := b0.kept ((Below.refl _ (w.alloc (.cells #[.int .i64 4, .int .i64 a, .int .i64 b] 55))).drew)
  have d0 := bd.cell 0
  have hN := l15Names_ok (w.alloc (.cells #[.int .i64 4, .int .i64 a, .int .i64 b] 55)).drew
  clear ha hb
  go_enter Tryd.func23, Tryd.ntmps23
  go_wp2_with (go_at_call 40; refine hI.mono ?_; rintro e wx ⟨rfl, rfl⟩)
  go_region_with (go_at_call 43; refine hN.mono ?_; rintro e w1 ⟨g, rfl, hc, hk1⟩; have c0 : w1.cell? ⟨g, 4, none⟩ = some (.string ⟨#[110, 117, 108, 108]⟩) := ((hc.cell 4).trans rfl); have m := bd.kept hk1; have m0 := m.cell 0; have m1 := m.cell 1; have m2 := m.cell 2)
  all_goals (
    go_simp
    go_wp2_with fail
    go_ret
    exact ⟨rfl, kd.trans hk1⟩)
set_option maxHeartbeats 4000000 in
set_option maxRecDepth 100000 in
theorem specStep_5 (w : World) (a b : Int) (ha : -9223372036854775808 ≤ a ∧ a ≤ 9223372036854775807) (hb : -9223372036854775808 ≤ b ∧ b ≤ 9223372036854775807) :
    Calls Tryd.prog 23 #[.agg #[.int .i64 5, .int .i64 a, .int .i64 b]] w fun e w' => e = .returned (.string (⟨#[116, 114, 117, 101]⟩)) ∧ Kept w w' := by
  have k0 : Kept w (w.alloc (.cells #[.int .i64 5, .int .i64 a, .int .i64 b] 55)) := Kept.alloc (Below.refl _ _) _
  have b0 := Cells.new w 55 #[.int .i64 5, .int .i64 a, .int .i64 b]
  have hI := l1InS_yes 5 1 25 (w.alloc (.cells #[.int .i64 5, .int .i64 a, .int .i64 b] 55)) (by decide) (by decide)
  have kd : Kept w (w.alloc (.cells #[.int .i64 5, .int .i64 a, .int .i64 b] 55)).drew := k0.drew
  have bd := b0.kept ((Below.refl _ (w.alloc (.cells #[.int .i64 5, .int .i64 a, .int .i64 b] 55))).drew)
  have d0 := bd.cell 0
  have hN := l15Names_ok (w.alloc (.cells #[.int .i64 5, .int .i64 a, .int .i64 b] 55)).drew
  clear ha hb
  go_enter Tryd.func23, Tryd.ntmps23
  go_wp2_with (go_at_call 40; refine hI.mono ?_; rintro e wx ⟨rfl, rfl⟩)
  go_region_with (go_at_call 43; refine hN.mono ?_; rintro e w1 ⟨g, rfl, hc, hk1⟩; have c0 : w1.cell? ⟨g, 5, none⟩ = some (.string ⟨#[116, 114, 117, 101]⟩) := ((hc.cell 5).trans rfl); have m := bd.kept hk1; have m0 := m.cell 0; have m1 := m.cell 1; have m2 := m.cell 2)
  all_goals (
    go_simp
    go_wp2_with fail
    go_ret
    exact ⟨rfl, kd.trans hk1⟩)
set_option maxHeartbeats 4000000 in
set_option maxRecDepth 100000 in
theorem specStep_6 (w : World) (a b : Int) (ha : -9223372036854775808 ≤ a ∧ a ≤ 9223372036854775807) (hb : -9223372036854775808 ≤ b ∧ b ≤ 9223372036854775807) :
    Calls Tryd.prog 23 #[.agg #[.int .i64 6, .int .i64 a, .int .i64 b]] w fun e w' => e = .returned (.string (⟨#[102, 97, 108, 115, 101]⟩)) ∧ Kept w w' := by
  have k0 : Kept w (w.alloc (.cells #[.int .i64 6, .int .i64 a, .int .i64 b] 55)) := Kept.alloc (Below.refl _ _) _
  have b0 := Cells.new w 55 #[.int .i64 6, .int .i64 a, .int .i64 b]
  have hI := l1InS_yes 6 1 25 (w.alloc (.cells #[.int .i64 6, .int .i64 a, .int .i64 b] 55)) (by decide) (by decide)
  have kd : Kept w (w.alloc (.cells #[.int .i64 6, .int .i64 a, .int .i64 b] 55)).drew := k0.drew
  have bd := b0.kept ((Below.refl _ (w.alloc (.cells #[.int .i64 6, .int .i64 a, .int .i64 b] 55))).drew)
  have d0 := bd.cell 0
  have hN := l15Names_ok (w.alloc (.cells #[.int .i64 6, .int .i64 a, .int .i64 b] 55)).drew
  clear ha hb
  go_enter Tryd.func23, Tryd.ntmps23
  go_wp2_with (go_at_call 40; refine hI.mono ?_; rintro e wx ⟨rfl, rfl⟩)
  go_region_with (go_at_call 43; refine hN.mono ?_; rintro e w1 ⟨g, rfl, hc, hk1⟩; have c0 : w1.cell? ⟨g, 6, none⟩ = some (.string ⟨#[102, 97, 108, 115, 101]⟩) := ((hc.cell 6).trans rfl); have m := bd.kept hk1; have m0 := m.cell 0; have m1 := m.cell 1; have m2 := m.cell 2)
  all_goals (
    go_simp
    go_wp2_with fail
    go_ret
    exact ⟨rfl, kd.trans hk1⟩)
set_option maxHeartbeats 4000000 in
set_option maxRecDepth 100000 in
theorem specStep_11 (w : World) (a b : Int) (ha : -9223372036854775808 ≤ a ∧ a ≤ 9223372036854775807) (hb : -9223372036854775808 ≤ b ∧ b ≤ 9223372036854775807) :
    Calls Tryd.prog 23 #[.agg #[.int .i64 11, .int .i64 a, .int .i64 b]] w fun e w' => e = .returned (.string (⟨#[111, 98, 106]⟩)) ∧ Kept w w' := by
  have k0 : Kept w (w.alloc (.cells #[.int .i64 11, .int .i64 a, .int .i64 b] 55)) := Kept.alloc (Below.refl _ _) _
  have b0 := Cells.new w 55 #[.int .i64 11, .int .i64 a, .int .i64 b]
  have hI := l1InS_yes 11 1 25 (w.alloc (.cells #[.int .i64 11, .int .i64 a, .int .i64 b] 55)) (by decide) (by decide)
  have kd : Kept w (w.alloc (.cells #[.int .i64 11, .int .i64 a, .int .i64 b] 55)).drew := k0.drew
  have bd := b0.kept ((Below.refl _ (w.alloc (.cells #[.int .i64 11, .int .i64 a, .int .i64 b] 55))).drew)
  have d0 := bd.cell 0
  have hN := l15Names_ok (w.alloc (.cells #[.int .i64 11, .int .i64 a, .int .i64 b] 55)).drew
  clear ha hb
  go_enter Tryd.func23, Tryd.ntmps23
  go_wp2_with (go_at_call 40; refine hI.mono ?_; rintro e wx ⟨rfl, rfl⟩)
  go_region_with (go_at_call 43; refine hN.mono ?_; rintro e w1 ⟨g, rfl, hc, hk1⟩; have c0 : w1.cell? ⟨g, 11, none⟩ = some (.string ⟨#[111, 98, 106]⟩) := ((hc.cell 11).trans rfl); have m := bd.kept hk1; have m0 := m.cell 0; have m1 := m.cell 1; have m2 := m.cell 2)
  all_goals (
    go_simp
    go_wp2_with fail
    go_ret
    exact ⟨rfl, kd.trans hk1⟩)
set_option maxHeartbeats 4000000 in
set_option maxRecDepth 100000 in
theorem specStep_13 (w : World) (a b : Int) (ha : -9223372036854775808 ≤ a ∧ a ≤ 9223372036854775807) (hb : -9223372036854775808 ≤ b ∧ b ≤ 9223372036854775807) :
    Calls Tryd.prog 23 #[.agg #[.int .i64 13, .int .i64 a, .int .i64 b]] w fun e w' => e = .returned (.string (⟨#[114, 101, 116, 117, 114, 110]⟩)) ∧ Kept w w' := by
  have k0 : Kept w (w.alloc (.cells #[.int .i64 13, .int .i64 a, .int .i64 b] 55)) := Kept.alloc (Below.refl _ _) _
  have b0 := Cells.new w 55 #[.int .i64 13, .int .i64 a, .int .i64 b]
  have hI := l1InS_yes 13 1 25 (w.alloc (.cells #[.int .i64 13, .int .i64 a, .int .i64 b] 55)) (by decide) (by decide)
  have kd : Kept w (w.alloc (.cells #[.int .i64 13, .int .i64 a, .int .i64 b] 55)).drew := k0.drew
  have bd := b0.kept ((Below.refl _ (w.alloc (.cells #[.int .i64 13, .int .i64 a, .int .i64 b] 55))).drew)
  have d0 := bd.cell 0
  have hN := l15Names_ok (w.alloc (.cells #[.int .i64 13, .int .i64 a, .int .i64 b] 55)).drew
  clear ha hb
  go_enter Tryd.func23, Tryd.ntmps23
  go_wp2_with (go_at_call 40; refine hI.mono ?_; rintro e wx ⟨rfl, rfl⟩)
  go_region_with (go_at_call 43; refine hN.mono ?_; rintro e w1 ⟨g, rfl, hc, hk1⟩; have c0 : w1.cell? ⟨g, 13, none⟩ = some (.string ⟨#[114, 101, 116, 117, 114, 110]⟩) := ((hc.cell 13).trans rfl); have m := bd.kept hk1; have m0 := m.cell 0; have m1 := m.cell 1; have m2 := m.cell 2)
  all_goals (
    go_simp
    go_wp2_with fail
    go_ret
    exact ⟨rfl, kd.trans hk1⟩)
set_option maxHeartbeats 4000000 in
set_option maxRecDepth 100000 in
theorem specStep_14 (w : World) (a b : Int) (ha : -9223372036854775808 ≤ a ∧ a ≤ 9223372036854775807) (hb : -9223372036854775808 ≤ b ∧ b ≤ 9223372036854775807) :
    Calls Tryd.prog 23 #[.agg #[.int .i64 14, .int .i64 a, .int .i64 b]] w fun e w' => e = .returned (.string (⟨#[97, 100, 100]⟩)) ∧ Kept w w' := by
  have k0 : Kept w (w.alloc (.cells #[.int .i64 14, .int .i64 a, .int .i64 b] 55)) := Kept.alloc (Below.refl _ _) _
  have b0 := Cells.new w 55 #[.int .i64 14, .int .i64 a, .int .i64 b]
  have hI := l1InS_yes 14 1 25 (w.alloc (.cells #[.int .i64 14, .int .i64 a, .int .i64 b] 55)) (by decide) (by decide)
  have kd : Kept w (w.alloc (.cells #[.int .i64 14, .int .i64 a, .int .i64 b] 55)).drew := k0.drew
  have bd := b0.kept ((Below.refl _ (w.alloc (.cells #[.int .i64 14, .int .i64 a, .int .i64 b] 55))).drew)
  have d0 := bd.cell 0
  have hN := l15Names_ok (w.alloc (.cells #[.int .i64 14, .int .i64 a, .int .i64 b] 55)).drew
  clear ha hb
  go_enter Tryd.func23, Tryd.ntmps23
  go_wp2_with (go_at_call 40; refine hI.mono ?_; rintro e wx ⟨rfl, rfl⟩)
  go_region_with (go_at_call 43; refine hN.mono ?_; rintro e w1 ⟨g, rfl, hc, hk1⟩; have c0 : w1.cell? ⟨g, 14, none⟩ = some (.string ⟨#[97, 100, 100]⟩) := ((hc.cell 14).trans rfl); have m := bd.kept hk1; have m0 := m.cell 0; have m1 := m.cell 1; have m2 := m.cell 2)
  all_goals (
    go_simp
    go_wp2_with fail
    go_ret
    exact ⟨rfl, kd.trans hk1⟩)
set_option maxHeartbeats 4000000 in
set_option maxRecDepth 100000 in
theorem specStep_15 (w : World) (a b : Int) (ha : -9223372036854775808 ≤ a ∧ a ≤ 9223372036854775807) (hb : -9223372036854775808 ≤ b ∧ b ≤ 9223372036854775807) :
    Calls Tryd.prog 23 #[.agg #[.int .i64 15, .int .i64 a, .int .i64 b]] w fun e w' => e = .returned (.string (⟨#[115, 117, 98]⟩)) ∧ Kept w w' := by
  have k0 : Kept w (w.alloc (.cells #[.int .i64 15, .int .i64 a, .int .i64 b] 55)) := Kept.alloc (Below.refl _ _) _
  have b0 := Cells.new w 55 #[.int .i64 15, .int .i64 a, .int .i64 b]
  have hI := l1InS_yes 15 1 25 (w.alloc (.cells #[.int .i64 15, .int .i64 a, .int .i64 b] 55)) (by decide) (by decide)
  have kd : Kept w (w.alloc (.cells #[.int .i64 15, .int .i64 a, .int .i64 b] 55)).drew := k0.drew
  have bd := b0.kept ((Below.refl _ (w.alloc (.cells #[.int .i64 15, .int .i64 a, .int .i64 b] 55))).drew)
  have d0 := bd.cell 0
  have hN := l15Names_ok (w.alloc (.cells #[.int .i64 15, .int .i64 a, .int .i64 b] 55)).drew
  clear ha hb
  go_enter Tryd.func23, Tryd.ntmps23
  go_wp2_with (go_at_call 40; refine hI.mono ?_; rintro e wx ⟨rfl, rfl⟩)
  go_region_with (go_at_call 43; refine hN.mono ?_; rintro e w1 ⟨g, rfl, hc, hk1⟩; have c0 : w1.cell? ⟨g, 15, none⟩ = some (.string ⟨#[115, 117, 98]⟩) := ((hc.cell 15).trans rfl); have m := bd.kept hk1; have m0 := m.cell 0; have m1 := m.cell 1; have m2 := m.cell 2)
  all_goals (
    go_simp
    go_wp2_with fail
    go_ret
    exact ⟨rfl, kd.trans hk1⟩)
set_option maxHeartbeats 4000000 in
set_option maxRecDepth 100000 in
theorem specStep_16 (w : World) (a b : Int) (ha : -9223372036854775808 ≤ a ∧ a ≤ 9223372036854775807) (hb : -9223372036854775808 ≤ b ∧ b ≤ 9223372036854775807) :
    Calls Tryd.prog 23 #[.agg #[.int .i64 16, .int .i64 a, .int .i64 b]] w fun e w' => e = .returned (.string (⟨#[109, 117, 108]⟩)) ∧ Kept w w' := by
  have k0 : Kept w (w.alloc (.cells #[.int .i64 16, .int .i64 a, .int .i64 b] 55)) := Kept.alloc (Below.refl _ _) _
  have b0 := Cells.new w 55 #[.int .i64 16, .int .i64 a, .int .i64 b]
  have hI := l1InS_yes 16 1 25 (w.alloc (.cells #[.int .i64 16, .int .i64 a, .int .i64 b] 55)) (by decide) (by decide)
  have kd : Kept w (w.alloc (.cells #[.int .i64 16, .int .i64 a, .int .i64 b] 55)).drew := k0.drew
  have bd := b0.kept ((Below.refl _ (w.alloc (.cells #[.int .i64 16, .int .i64 a, .int .i64 b] 55))).drew)
  have d0 := bd.cell 0
  have hN := l15Names_ok (w.alloc (.cells #[.int .i64 16, .int .i64 a, .int .i64 b] 55)).drew
  clear ha hb
  go_enter Tryd.func23, Tryd.ntmps23
  go_wp2_with (go_at_call 40; refine hI.mono ?_; rintro e wx ⟨rfl, rfl⟩)
  go_region_with (go_at_call 43; refine hN.mono ?_; rintro e w1 ⟨g, rfl, hc, hk1⟩; have c0 : w1.cell? ⟨g, 16, none⟩ = some (.string ⟨#[109, 117, 108]⟩) := ((hc.cell 16).trans rfl); have m := bd.kept hk1; have m0 := m.cell 0; have m1 := m.cell 1; have m2 := m.cell 2)
  all_goals (
    go_simp
    go_wp2_with fail
    go_ret
    exact ⟨rfl, kd.trans hk1⟩)
set_option maxHeartbeats 4000000 in
set_option maxRecDepth 100000 in
theorem specStep_17 (w : World) (a b : Int) (ha : -9223372036854775808 ≤ a ∧ a ≤ 9223372036854775807) (hb : -9223372036854775808 ≤ b ∧ b ≤ 9223372036854775807) :
    Calls Tryd.prog 23 #[.agg #[.int .i64 17, .int .i64 a, .int .i64 b]] w fun e w' => e = .returned (.string (⟨#[108, 101, 115, 115]⟩)) ∧ Kept w w' := by
  have k0 : Kept w (w.alloc (.cells #[.int .i64 17, .int .i64 a, .int .i64 b] 55)) := Kept.alloc (Below.refl _ _) _
  have b0 := Cells.new w 55 #[.int .i64 17, .int .i64 a, .int .i64 b]
  have hI := l1InS_yes 17 1 25 (w.alloc (.cells #[.int .i64 17, .int .i64 a, .int .i64 b] 55)) (by decide) (by decide)
  have kd : Kept w (w.alloc (.cells #[.int .i64 17, .int .i64 a, .int .i64 b] 55)).drew := k0.drew
  have bd := b0.kept ((Below.refl _ (w.alloc (.cells #[.int .i64 17, .int .i64 a, .int .i64 b] 55))).drew)
  have d0 := bd.cell 0
  have hN := l15Names_ok (w.alloc (.cells #[.int .i64 17, .int .i64 a, .int .i64 b] 55)).drew
  clear ha hb
  go_enter Tryd.func23, Tryd.ntmps23
  go_wp2_with (go_at_call 40; refine hI.mono ?_; rintro e wx ⟨rfl, rfl⟩)
  go_region_with (go_at_call 43; refine hN.mono ?_; rintro e w1 ⟨g, rfl, hc, hk1⟩; have c0 : w1.cell? ⟨g, 17, none⟩ = some (.string ⟨#[108, 101, 115, 115]⟩) := ((hc.cell 17).trans rfl); have m := bd.kept hk1; have m0 := m.cell 0; have m1 := m.cell 1; have m2 := m.cell 2)
  all_goals (
    go_simp
    go_wp2_with fail
    go_ret
    exact ⟨rfl, kd.trans hk1⟩)
set_option maxHeartbeats 4000000 in
set_option maxRecDepth 100000 in
theorem specStep_18 (w : World) (a b : Int) (ha : -9223372036854775808 ≤ a ∧ a ≤ 9223372036854775807) (hb : -9223372036854775808 ≤ b ∧ b ≤ 9223372036854775807) :
    Calls Tryd.prog 23 #[.agg #[.int .i64 18, .int .i64 a, .int .i64 b]] w fun e w' => e = .returned (.string (⟨#[115, 97, 109, 101]⟩)) ∧ Kept w w' := by
  have k0 : Kept w (w.alloc (.cells #[.int .i64 18, .int .i64 a, .int .i64 b] 55)) := Kept.alloc (Below.refl _ _) _
  have b0 := Cells.new w 55 #[.int .i64 18, .int .i64 a, .int .i64 b]
  have hI := l1InS_yes 18 1 25 (w.alloc (.cells #[.int .i64 18, .int .i64 a, .int .i64 b] 55)) (by decide) (by decide)
  have kd : Kept w (w.alloc (.cells #[.int .i64 18, .int .i64 a, .int .i64 b] 55)).drew := k0.drew
  have bd := b0.kept ((Below.refl _ (w.alloc (.cells #[.int .i64 18, .int .i64 a, .int .i64 b] 55))).drew)
  have d0 := bd.cell 0
  have hN := l15Names_ok (w.alloc (.cells #[.int .i64 18, .int .i64 a, .int .i64 b] 55)).drew
  clear ha hb
  go_enter Tryd.func23, Tryd.ntmps23
  go_wp2_with (go_at_call 40; refine hI.mono ?_; rintro e wx ⟨rfl, rfl⟩)
  go_region_with (go_at_call 43; refine hN.mono ?_; rintro e w1 ⟨g, rfl, hc, hk1⟩; have c0 : w1.cell? ⟨g, 18, none⟩ = some (.string ⟨#[115, 97, 109, 101]⟩) := ((hc.cell 18).trans rfl); have m := bd.kept hk1; have m0 := m.cell 0; have m1 := m.cell 1; have m2 := m.cell 2)
  all_goals (
    go_simp
    go_wp2_with fail
    go_ret
    exact ⟨rfl, kd.trans hk1⟩)
set_option maxHeartbeats 4000000 in
set_option maxRecDepth 100000 in
theorem specStep_19 (w : World) (a b : Int) (ha : -9223372036854775808 ≤ a ∧ a ≤ 9223372036854775807) (hb : -9223372036854775808 ≤ b ∧ b ≤ 9223372036854775807) :
    Calls Tryd.prog 23 #[.agg #[.int .i64 19, .int .i64 a, .int .i64 b]] w fun e w' => e = .returned (.string (⟨#[110, 111, 116]⟩)) ∧ Kept w w' := by
  have k0 : Kept w (w.alloc (.cells #[.int .i64 19, .int .i64 a, .int .i64 b] 55)) := Kept.alloc (Below.refl _ _) _
  have b0 := Cells.new w 55 #[.int .i64 19, .int .i64 a, .int .i64 b]
  have hI := l1InS_yes 19 1 25 (w.alloc (.cells #[.int .i64 19, .int .i64 a, .int .i64 b] 55)) (by decide) (by decide)
  have kd : Kept w (w.alloc (.cells #[.int .i64 19, .int .i64 a, .int .i64 b] 55)).drew := k0.drew
  have bd := b0.kept ((Below.refl _ (w.alloc (.cells #[.int .i64 19, .int .i64 a, .int .i64 b] 55))).drew)
  have d0 := bd.cell 0
  have hN := l15Names_ok (w.alloc (.cells #[.int .i64 19, .int .i64 a, .int .i64 b] 55)).drew
  clear ha hb
  go_enter Tryd.func23, Tryd.ntmps23
  go_wp2_with (go_at_call 40; refine hI.mono ?_; rintro e wx ⟨rfl, rfl⟩)
  go_region_with (go_at_call 43; refine hN.mono ?_; rintro e w1 ⟨g, rfl, hc, hk1⟩; have c0 : w1.cell? ⟨g, 19, none⟩ = some (.string ⟨#[110, 111, 116]⟩) := ((hc.cell 19).trans rfl); have m := bd.kept hk1; have m0 := m.cell 0; have m1 := m.cell 1; have m2 := m.cell 2)
  all_goals (
    go_simp
    go_wp2_with fail
    go_ret
    exact ⟨rfl, kd.trans hk1⟩)
set_option maxHeartbeats 4000000 in
set_option maxRecDepth 100000 in
theorem specStep_22 (w : World) (a b : Int) (ha : -9223372036854775808 ≤ a ∧ a ≤ 9223372036854775807) (hb : -9223372036854775808 ≤ b ∧ b ≤ 9223372036854775807) :
    Calls Tryd.prog 23 #[.agg #[.int .i64 22, .int .i64 a, .int .i64 b]] w fun e w' => e = .returned (.string (⟨#[112, 114, 105, 110, 116]⟩)) ∧ Kept w w' := by
  have k0 : Kept w (w.alloc (.cells #[.int .i64 22, .int .i64 a, .int .i64 b] 55)) := Kept.alloc (Below.refl _ _) _
  have b0 := Cells.new w 55 #[.int .i64 22, .int .i64 a, .int .i64 b]
  have hI := l1InS_yes 22 1 25 (w.alloc (.cells #[.int .i64 22, .int .i64 a, .int .i64 b] 55)) (by decide) (by decide)
  have kd : Kept w (w.alloc (.cells #[.int .i64 22, .int .i64 a, .int .i64 b] 55)).drew := k0.drew
  have bd := b0.kept ((Below.refl _ (w.alloc (.cells #[.int .i64 22, .int .i64 a, .int .i64 b] 55))).drew)
  have d0 := bd.cell 0
  have hN := l15Names_ok (w.alloc (.cells #[.int .i64 22, .int .i64 a, .int .i64 b] 55)).drew
  clear ha hb
  go_enter Tryd.func23, Tryd.ntmps23
  go_wp2_with (go_at_call 40; refine hI.mono ?_; rintro e wx ⟨rfl, rfl⟩)
  go_region_with (go_at_call 43; refine hN.mono ?_; rintro e w1 ⟨g, rfl, hc, hk1⟩; have c0 : w1.cell? ⟨g, 22, none⟩ = some (.string ⟨#[112, 114, 105, 110, 116]⟩) := ((hc.cell 22).trans rfl); have m := bd.kept hk1; have m0 := m.cell 0; have m1 := m.cell 1; have m2 := m.cell 2)
  all_goals (
    go_simp
    go_wp2_with fail
    go_ret
    exact ⟨rfl, kd.trans hk1⟩)
set_option maxHeartbeats 4000000 in
set_option maxRecDepth 100000 in
theorem specStep_23 (w : World) (a b : Int) (ha : -9223372036854775808 ≤ a ∧ a ≤ 9223372036854775807) (hb : -9223372036854775808 ≤ b ∧ b ≤ 9223372036854775807) :
    Calls Tryd.prog 23 #[.agg #[.int .i64 23, .int .i64 a, .int .i64 b]] w fun e w' => e = .returned (.string (⟨#[112, 111, 112]⟩)) ∧ Kept w w' := by
  have k0 : Kept w (w.alloc (.cells #[.int .i64 23, .int .i64 a, .int .i64 b] 55)) := Kept.alloc (Below.refl _ _) _
  have b0 := Cells.new w 55 #[.int .i64 23, .int .i64 a, .int .i64 b]
  have hI := l1InS_yes 23 1 25 (w.alloc (.cells #[.int .i64 23, .int .i64 a, .int .i64 b] 55)) (by decide) (by decide)
  have kd : Kept w (w.alloc (.cells #[.int .i64 23, .int .i64 a, .int .i64 b] 55)).drew := k0.drew
  have bd := b0.kept ((Below.refl _ (w.alloc (.cells #[.int .i64 23, .int .i64 a, .int .i64 b] 55))).drew)
  have d0 := bd.cell 0
  have hN := l15Names_ok (w.alloc (.cells #[.int .i64 23, .int .i64 a, .int .i64 b] 55)).drew
  clear ha hb
  go_enter Tryd.func23, Tryd.ntmps23
  go_wp2_with (go_at_call 40; refine hI.mono ?_; rintro e wx ⟨rfl, rfl⟩)
  go_region_with (go_at_call 43; refine hN.mono ?_; rintro e w1 ⟨g, rfl, hc, hk1⟩; have c0 : w1.cell? ⟨g, 23, none⟩ = some (.string ⟨#[112, 111, 112]⟩) := ((hc.cell 23).trans rfl); have m := bd.kept hk1; have m0 := m.cell 0; have m1 := m.cell 1; have m2 := m.cell 2)
  all_goals (
    go_simp
    go_wp2_with fail
    go_ret
    exact ⟨rfl, kd.trans hk1⟩)
end Go.Proofs.YthmabhglmgnamaaDoor
