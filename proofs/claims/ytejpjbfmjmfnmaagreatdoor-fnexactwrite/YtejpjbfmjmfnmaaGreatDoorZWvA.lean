/-
  Which function writes the nodes of an op (genWv.py).
-/
import Derived.Test.YtejpjbfmjmfnmaaGreatDoorGrpRa
namespace Go.Proofs.YtejpjbfmjmfnmaaGreatDoor
open Go.RowKit
set_option linter.unusedSimpArgs false
set_option linter.unusedVariables false

/-- A writer's value whose last field is the function f, with a text that it has kept. -/
def WfV (W : World) (v : Value) (f : FuncId) (t : Option ByteArray) : Prop := ∃ (a : Int) (o : FuncId) (b c : Int) (sl : Option Addr) (l cc : Nat) (lb : Array Value), v = .agg #[.int .i64 a, .func (.func o) #[] #[], .int .i64 b, .int .i64 c, .slice sl l cc, .func (.func f) #[] lb] ∧ ((t = none ∧ lb = #[]) ∨ ∃ s g, t = some s ∧ lb = #[.pointer (some ⟨g, 0, none⟩)] ∧ Cells W g 9 #[.string s])
theorem WfV.kept {W W' : World} {v : Value} {f : FuncId} {t : Option ByteArray} (h : WfV W v f t) (hk : Kept W W') : WfV W' v f t := by
  obtain ⟨a, o, b, c, sl, l, cc, lb, e, h | ⟨s, g, h1, h2, h3⟩⟩ := h
  · exact ⟨a, o, b, c, sl, l, cc, lb, e, .inl h⟩
  · exact ⟨a, o, b, c, sl, l, cc, lb, e, .inr ⟨s, g, h1, h2, h3.kept hk⟩⟩
set_option maxHeartbeats 8000000 in
set_option maxRecDepth 100000 in
theorem wf_1 (w : World) : Calls Tryz.prog 37 #[.int .i64 1] w fun e w' => ∃ v, e = .returned v ∧ WfV w' v 59 none ∧ Kept w w' := by
  have r0 := Cells.new w 71 zeroW
  have k0 : Kept w (w.alloc (.cells zeroW 71)) := Kept.alloc (Below.refl _ _) _
  have hC := atLeast_ok (w.alloc (.cells zeroW 71)) 0 2
  go_enter Tryz.func37, Tryz.ntmps37
  go_wp2_with (go_at_call 58; refine hC.mono ?_; rintro e w1 ⟨g, rfl, hg, hk1⟩; have r1 := r0.kept hk1; have d0 := r1.cell 0; have d1 := r1.cell 1; have d2 := r1.cell 2; have d3 := r1.cell 3; have d4 := r1.cell 4; have d5 := r1.cell 5; have g0 := r1.frozen 0; have g1 := r1.frozen 1; have g2 := r1.frozen 2; have g3 := r1.frozen 3; have g4 := r1.frozen 4; have g5 := r1.frozen 5; have lr := r1.lt; simp at d0 d1 d2 d3 d4 d5)
  have hgne : g ≠ w.heap.size := by
    rintro rfl
    rw [d0] at hg
    simp at hg
  have z := ((((((r1.set 0 (.int .i64 1)).set 1 (.func (.func 57) #[] #[])).set 2 (.int .i64 0)).set 3 (.int .i64 200)).set 4 (.slice (some ⟨g, 0, none⟩) 1 1)).set 5 (.func (.func 59) #[] #[]))
  have z0 := z.cell 0; have z1 := z.cell 1; have z2 := z.cell 2; have z3 := z.cell 3; have z4 := z.cell 4; have z5 := z.cell 5
  exact bodyPost_ret (v := .agg #[.int .i64 1, .func (.func 57) #[] #[], .int .i64 0, .int .i64 200, .slice (some ⟨g, 0, none⟩) 1 1, .func (.func 59) #[] #[]]) (by simp [results, Tryz.results37, go_sem, z0, z1, z2, z3, z4, z5]) rfl ⟨_, rfl, ⟨_, _, _, _, _, _, _, _, rfl, .inl ⟨rfl, rfl⟩⟩, (((((((k0.trans hk1).set (by simp) _).set (by simp) _).set (by simp) _).set (by simp) _).set (by simp) _).set (by simp) _)⟩
set_option maxHeartbeats 8000000 in
set_option maxRecDepth 100000 in
theorem wf_2 (w : World) : Calls Tryz.prog 37 #[.int .i64 2] w fun e w' => ∃ v, e = .returned v ∧ WfV w' v 62 none ∧ Kept w w' := by
  have r0 := Cells.new w 71 zeroW
  have k0 : Kept w (w.alloc (.cells zeroW 71)) := Kept.alloc (Below.refl _ _) _
  have s0 := Cells.new (w.alloc (.cells zeroW 71)) 56 #[.int .i64 3]
  simp only [World.size_alloc] at s0
  have r0 := r0.alloc (.cells #[.int .i64 3] 56)
  have k0 : Kept w ((w.alloc (.cells zeroW 71)).alloc (.cells #[.int .i64 3] 56)) := k0.alloc _
  have hC := kidsAs_ok ((w.alloc (.cells zeroW 71)).alloc (.cells #[.int .i64 3] 56)) (some ⟨w.heap.size + 1, 0, none⟩) 1 1
  go_enter Tryz.func37, Tryz.ntmps37
  go_wp2_with (go_at_call 61; refine hC.mono ?_; rintro e w1 ⟨rfl, hk1⟩; have s1 := s0.kept hk1; have r1 := r0.kept hk1; have d0 := r1.cell 0; have d1 := r1.cell 1; have d2 := r1.cell 2; have d3 := r1.cell 3; have d4 := r1.cell 4; have d5 := r1.cell 5; have g0 := r1.frozen 0; have g1 := r1.frozen 1; have g2 := r1.frozen 2; have g3 := r1.frozen 3; have g4 := r1.frozen 4; have g5 := r1.frozen 5; have lr := r1.lt; simp at d0 d1 d2 d3 d4 d5)
  have z := ((((((r1.set 0 (.int .i64 2)).set 1 (.func (.func 60) #[] #[])).set 2 (.int .i64 1)).set 3 (.int .i64 1)).set 4 (.slice (some ⟨w.heap.size + 1, 0, none⟩) 1 1)).set 5 (.func (.func 62) #[] #[]))
  have z0 := z.cell 0; have z1 := z.cell 1; have z2 := z.cell 2; have z3 := z.cell 3; have z4 := z.cell 4; have z5 := z.cell 5
  exact bodyPost_ret (v := .agg #[.int .i64 2, .func (.func 60) #[] #[], .int .i64 1, .int .i64 1, .slice (some ⟨w.heap.size + 1, 0, none⟩) 1 1, .func (.func 62) #[] #[]]) (by simp [results, Tryz.results37, go_sem, z0, z1, z2, z3, z4, z5]) rfl ⟨_, rfl, ⟨_, _, _, _, _, _, _, _, rfl, .inl ⟨rfl, rfl⟩⟩, (((((((k0.trans hk1).set (by simp) _).set (by simp) _).set (by simp) _).set (by simp) _).set (by simp) _).set (by simp) _)⟩
set_option maxHeartbeats 8000000 in
set_option maxRecDepth 100000 in
theorem wf_3 (w : World) : Calls Tryz.prog 37 #[.int .i64 3] w fun e w' => ∃ v, e = .returned v ∧ WfV w' v 63 none ∧ Kept w w' := by
  have r0 := Cells.new w 71 zeroW
  have k0 : Kept w (w.alloc (.cells zeroW 71)) := Kept.alloc (Below.refl _ _) _
  have s0 := Cells.new (w.alloc (.cells zeroW 71)) 56 #[.int .i64 3]
  simp only [World.size_alloc] at s0
  have r0 := r0.alloc (.cells #[.int .i64 3] 56)
  have k0 : Kept w ((w.alloc (.cells zeroW 71)).alloc (.cells #[.int .i64 3] 56)) := k0.alloc _
  have hC := kidsAs_ok ((w.alloc (.cells zeroW 71)).alloc (.cells #[.int .i64 3] 56)) (some ⟨w.heap.size + 1, 0, none⟩) 1 1
  go_enter Tryz.func37, Tryz.ntmps37
  go_wp2_with (go_at_call 61; refine hC.mono ?_; rintro e w1 ⟨rfl, hk1⟩; have s1 := s0.kept hk1; have r1 := r0.kept hk1; have d0 := r1.cell 0; have d1 := r1.cell 1; have d2 := r1.cell 2; have d3 := r1.cell 3; have d4 := r1.cell 4; have d5 := r1.cell 5; have g0 := r1.frozen 0; have g1 := r1.frozen 1; have g2 := r1.frozen 2; have g3 := r1.frozen 3; have g4 := r1.frozen 4; have g5 := r1.frozen 5; have lr := r1.lt; simp at d0 d1 d2 d3 d4 d5)
  have z := ((((((r1.set 0 (.int .i64 2)).set 1 (.func (.func 60) #[] #[])).set 2 (.int .i64 1)).set 3 (.int .i64 1)).set 4 (.slice (some ⟨w.heap.size + 1, 0, none⟩) 1 1)).set 5 (.func (.func 63) #[] #[]))
  have z0 := z.cell 0; have z1 := z.cell 1; have z2 := z.cell 2; have z3 := z.cell 3; have z4 := z.cell 4; have z5 := z.cell 5
  exact bodyPost_ret (v := .agg #[.int .i64 2, .func (.func 60) #[] #[], .int .i64 1, .int .i64 1, .slice (some ⟨w.heap.size + 1, 0, none⟩) 1 1, .func (.func 63) #[] #[]]) (by simp [results, Tryz.results37, go_sem, z0, z1, z2, z3, z4, z5]) rfl ⟨_, rfl, ⟨_, _, _, _, _, _, _, _, rfl, .inl ⟨rfl, rfl⟩⟩, (((((((k0.trans hk1).set (by simp) _).set (by simp) _).set (by simp) _).set (by simp) _).set (by simp) _).set (by simp) _)⟩
set_option maxHeartbeats 8000000 in
set_option maxRecDepth 100000 in
theorem wf_4 (w : World) : Calls Tryz.prog 37 #[.int .i64 4] w fun e w' => ∃ v, e = .returned v ∧ WfV w' v 65 none ∧ Kept w w' := by
  have r0 := Cells.new w 71 zeroW
  have k0 : Kept w (w.alloc (.cells zeroW 71)) := Kept.alloc (Below.refl _ _) _
  have s0 := Cells.new (w.alloc (.cells zeroW 71)) 56 #[.int .i64 3, .int .i64 3]
  simp only [World.size_alloc] at s0
  have r0 := r0.alloc (.cells #[.int .i64 3, .int .i64 3] 56)
  have k0 : Kept w ((w.alloc (.cells zeroW 71)).alloc (.cells #[.int .i64 3, .int .i64 3] 56)) := k0.alloc _
  have hC := kidsAs_ok ((w.alloc (.cells zeroW 71)).alloc (.cells #[.int .i64 3, .int .i64 3] 56)) (some ⟨w.heap.size + 1, 0, none⟩) 2 2
  go_enter Tryz.func37, Tryz.ntmps37
  go_wp2_with (go_at_call 61; refine hC.mono ?_; rintro e w1 ⟨rfl, hk1⟩; have s1 := s0.kept hk1; have r1 := r0.kept hk1; have d0 := r1.cell 0; have d1 := r1.cell 1; have d2 := r1.cell 2; have d3 := r1.cell 3; have d4 := r1.cell 4; have d5 := r1.cell 5; have g0 := r1.frozen 0; have g1 := r1.frozen 1; have g2 := r1.frozen 2; have g3 := r1.frozen 3; have g4 := r1.frozen 4; have g5 := r1.frozen 5; have lr := r1.lt; simp at d0 d1 d2 d3 d4 d5)
  have z := ((((((r1.set 0 (.int .i64 2)).set 1 (.func (.func 64) #[] #[])).set 2 (.int .i64 2)).set 3 (.int .i64 2)).set 4 (.slice (some ⟨w.heap.size + 1, 0, none⟩) 2 2)).set 5 (.func (.func 65) #[] #[]))
  have z0 := z.cell 0; have z1 := z.cell 1; have z2 := z.cell 2; have z3 := z.cell 3; have z4 := z.cell 4; have z5 := z.cell 5
  exact bodyPost_ret (v := .agg #[.int .i64 2, .func (.func 64) #[] #[], .int .i64 2, .int .i64 2, .slice (some ⟨w.heap.size + 1, 0, none⟩) 2 2, .func (.func 65) #[] #[]]) (by simp [results, Tryz.results37, go_sem, z0, z1, z2, z3, z4, z5]) rfl ⟨_, rfl, ⟨_, _, _, _, _, _, _, _, rfl, .inl ⟨rfl, rfl⟩⟩, (((((((k0.trans hk1).set (by simp) _).set (by simp) _).set (by simp) _).set (by simp) _).set (by simp) _).set (by simp) _)⟩
set_option maxHeartbeats 8000000 in
set_option maxRecDepth 100000 in
theorem wf_6 (w : World) : Calls Tryz.prog 37 #[.int .i64 6] w fun e w' => ∃ v, e = .returned v ∧ WfV w' v 67 none ∧ Kept w w' := by
  have r0 := Cells.new w 71 zeroW
  have k0 : Kept w (w.alloc (.cells zeroW 71)) := Kept.alloc (Below.refl _ _) _
  have s0 := Cells.new (w.alloc (.cells zeroW 71)) 56 #[.int .i64 3, .int .i64 1]
  simp only [World.size_alloc] at s0
  have r0 := r0.alloc (.cells #[.int .i64 3, .int .i64 1] 56)
  have k0 : Kept w ((w.alloc (.cells zeroW 71)).alloc (.cells #[.int .i64 3, .int .i64 1] 56)) := k0.alloc _
  have hC := kidsAs_ok ((w.alloc (.cells zeroW 71)).alloc (.cells #[.int .i64 3, .int .i64 1] 56)) (some ⟨w.heap.size + 1, 0, none⟩) 2 2
  go_enter Tryz.func37, Tryz.ntmps37
  go_wp2_with (go_at_call 61; refine hC.mono ?_; rintro e w1 ⟨rfl, hk1⟩; have s1 := s0.kept hk1; have r1 := r0.kept hk1; have d0 := r1.cell 0; have d1 := r1.cell 1; have d2 := r1.cell 2; have d3 := r1.cell 3; have d4 := r1.cell 4; have d5 := r1.cell 5; have g0 := r1.frozen 0; have g1 := r1.frozen 1; have g2 := r1.frozen 2; have g3 := r1.frozen 3; have g4 := r1.frozen 4; have g5 := r1.frozen 5; have lr := r1.lt; simp at d0 d1 d2 d3 d4 d5)
  have z := ((((((r1.set 0 (.int .i64 2)).set 1 (.func (.func 57) #[] #[])).set 2 (.int .i64 2)).set 3 (.int .i64 2)).set 4 (.slice (some ⟨w.heap.size + 1, 0, none⟩) 2 2)).set 5 (.func (.func 67) #[] #[]))
  have z0 := z.cell 0; have z1 := z.cell 1; have z2 := z.cell 2; have z3 := z.cell 3; have z4 := z.cell 4; have z5 := z.cell 5
  exact bodyPost_ret (v := .agg #[.int .i64 2, .func (.func 57) #[] #[], .int .i64 2, .int .i64 2, .slice (some ⟨w.heap.size + 1, 0, none⟩) 2 2, .func (.func 67) #[] #[]]) (by simp [results, Tryz.results37, go_sem, z0, z1, z2, z3, z4, z5]) rfl ⟨_, rfl, ⟨_, _, _, _, _, _, _, _, rfl, .inl ⟨rfl, rfl⟩⟩, (((((((k0.trans hk1).set (by simp) _).set (by simp) _).set (by simp) _).set (by simp) _).set (by simp) _).set (by simp) _)⟩
set_option maxHeartbeats 8000000 in
set_option maxRecDepth 100000 in
theorem wf_7 (w : World) : Calls Tryz.prog 37 #[.int .i64 7] w fun e w' => ∃ v, e = .returned v ∧ WfV w' v 68 none ∧ Kept w w' := by
  have r0 := Cells.new w 71 zeroW
  have k0 : Kept w (w.alloc (.cells zeroW 71)) := Kept.alloc (Below.refl _ _) _
  have s0 := Cells.new (w.alloc (.cells zeroW 71)) 56 #[.int .i64 3]
  simp only [World.size_alloc] at s0
  have r0 := r0.alloc (.cells #[.int .i64 3] 56)
  have k0 : Kept w ((w.alloc (.cells zeroW 71)).alloc (.cells #[.int .i64 3] 56)) := k0.alloc _
  have hC := kidsAs_ok ((w.alloc (.cells zeroW 71)).alloc (.cells #[.int .i64 3] 56)) (some ⟨w.heap.size + 1, 0, none⟩) 1 1
  go_enter Tryz.func37, Tryz.ntmps37
  go_wp2_with (go_at_call 61; refine hC.mono ?_; rintro e w1 ⟨rfl, hk1⟩; have s1 := s0.kept hk1; have r1 := r0.kept hk1; have d0 := r1.cell 0; have d1 := r1.cell 1; have d2 := r1.cell 2; have d3 := r1.cell 3; have d4 := r1.cell 4; have d5 := r1.cell 5; have g0 := r1.frozen 0; have g1 := r1.frozen 1; have g2 := r1.frozen 2; have g3 := r1.frozen 3; have g4 := r1.frozen 4; have g5 := r1.frozen 5; have lr := r1.lt; simp at d0 d1 d2 d3 d4 d5)
  have z := ((((((r1.set 0 (.int .i64 2)).set 1 (.func (.func 57) #[] #[])).set 2 (.int .i64 1)).set 3 (.int .i64 1)).set 4 (.slice (some ⟨w.heap.size + 1, 0, none⟩) 1 1)).set 5 (.func (.func 68) #[] #[]))
  have z0 := z.cell 0; have z1 := z.cell 1; have z2 := z.cell 2; have z3 := z.cell 3; have z4 := z.cell 4; have z5 := z.cell 5
  exact bodyPost_ret (v := .agg #[.int .i64 2, .func (.func 57) #[] #[], .int .i64 1, .int .i64 1, .slice (some ⟨w.heap.size + 1, 0, none⟩) 1 1, .func (.func 68) #[] #[]]) (by simp [results, Tryz.results37, go_sem, z0, z1, z2, z3, z4, z5]) rfl ⟨_, rfl, ⟨_, _, _, _, _, _, _, _, rfl, .inl ⟨rfl, rfl⟩⟩, (((((((k0.trans hk1).set (by simp) _).set (by simp) _).set (by simp) _).set (by simp) _).set (by simp) _).set (by simp) _)⟩
set_option maxHeartbeats 8000000 in
set_option maxRecDepth 100000 in
theorem wf_8 (w : World) : Calls Tryz.prog 37 #[.int .i64 8] w fun e w' => ∃ v, e = .returned v ∧ WfV w' v 69 none ∧ Kept w w' := by
  have r0 := Cells.new w 71 zeroW
  have k0 : Kept w (w.alloc (.cells zeroW 71)) := Kept.alloc (Below.refl _ _) _
  have s0 := Cells.new (w.alloc (.cells zeroW 71)) 56 #[.int .i64 3]
  simp only [World.size_alloc] at s0
  have r0 := r0.alloc (.cells #[.int .i64 3] 56)
  have k0 : Kept w ((w.alloc (.cells zeroW 71)).alloc (.cells #[.int .i64 3] 56)) := k0.alloc _
  have hC := kidsAs_ok ((w.alloc (.cells zeroW 71)).alloc (.cells #[.int .i64 3] 56)) (some ⟨w.heap.size + 1, 0, none⟩) 1 1
  go_enter Tryz.func37, Tryz.ntmps37
  go_wp2_with (go_at_call 61; refine hC.mono ?_; rintro e w1 ⟨rfl, hk1⟩; have s1 := s0.kept hk1; have r1 := r0.kept hk1; have d0 := r1.cell 0; have d1 := r1.cell 1; have d2 := r1.cell 2; have d3 := r1.cell 3; have d4 := r1.cell 4; have d5 := r1.cell 5; have g0 := r1.frozen 0; have g1 := r1.frozen 1; have g2 := r1.frozen 2; have g3 := r1.frozen 3; have g4 := r1.frozen 4; have g5 := r1.frozen 5; have lr := r1.lt; simp at d0 d1 d2 d3 d4 d5)
  have z := ((((((r1.set 0 (.int .i64 2)).set 1 (.func (.func 57) #[] #[])).set 2 (.int .i64 1)).set 3 (.int .i64 1)).set 4 (.slice (some ⟨w.heap.size + 1, 0, none⟩) 1 1)).set 5 (.func (.func 69) #[] #[]))
  have z0 := z.cell 0; have z1 := z.cell 1; have z2 := z.cell 2; have z3 := z.cell 3; have z4 := z.cell 4; have z5 := z.cell 5
  exact bodyPost_ret (v := .agg #[.int .i64 2, .func (.func 57) #[] #[], .int .i64 1, .int .i64 1, .slice (some ⟨w.heap.size + 1, 0, none⟩) 1 1, .func (.func 69) #[] #[]]) (by simp [results, Tryz.results37, go_sem, z0, z1, z2, z3, z4, z5]) rfl ⟨_, rfl, ⟨_, _, _, _, _, _, _, _, rfl, .inl ⟨rfl, rfl⟩⟩, (((((((k0.trans hk1).set (by simp) _).set (by simp) _).set (by simp) _).set (by simp) _).set (by simp) _).set (by simp) _)⟩
set_option maxHeartbeats 8000000 in
set_option maxRecDepth 100000 in
theorem wf_9 (w : World) : Calls Tryz.prog 37 #[.int .i64 9] w fun e w' => ∃ v, e = .returned v ∧ WfV w' v 70 none ∧ Kept w w' := by
  have r0 := Cells.new w 71 zeroW
  have k0 : Kept w (w.alloc (.cells zeroW 71)) := Kept.alloc (Below.refl _ _) _
  have s0 := Cells.new (w.alloc (.cells zeroW 71)) 56 #[.int .i64 3]
  simp only [World.size_alloc] at s0
  have r0 := r0.alloc (.cells #[.int .i64 3] 56)
  have k0 : Kept w ((w.alloc (.cells zeroW 71)).alloc (.cells #[.int .i64 3] 56)) := k0.alloc _
  have hC := kidsAs_ok ((w.alloc (.cells zeroW 71)).alloc (.cells #[.int .i64 3] 56)) (some ⟨w.heap.size + 1, 0, none⟩) 1 1
  go_enter Tryz.func37, Tryz.ntmps37
  go_wp2_with (go_at_call 61; refine hC.mono ?_; rintro e w1 ⟨rfl, hk1⟩; have s1 := s0.kept hk1; have r1 := r0.kept hk1; have d0 := r1.cell 0; have d1 := r1.cell 1; have d2 := r1.cell 2; have d3 := r1.cell 3; have d4 := r1.cell 4; have d5 := r1.cell 5; have g0 := r1.frozen 0; have g1 := r1.frozen 1; have g2 := r1.frozen 2; have g3 := r1.frozen 3; have g4 := r1.frozen 4; have g5 := r1.frozen 5; have lr := r1.lt; simp at d0 d1 d2 d3 d4 d5)
  have z := ((((((r1.set 0 (.int .i64 2)).set 1 (.func (.func 57) #[] #[])).set 2 (.int .i64 1)).set 3 (.int .i64 1)).set 4 (.slice (some ⟨w.heap.size + 1, 0, none⟩) 1 1)).set 5 (.func (.func 70) #[] #[]))
  have z0 := z.cell 0; have z1 := z.cell 1; have z2 := z.cell 2; have z3 := z.cell 3; have z4 := z.cell 4; have z5 := z.cell 5
  exact bodyPost_ret (v := .agg #[.int .i64 2, .func (.func 57) #[] #[], .int .i64 1, .int .i64 1, .slice (some ⟨w.heap.size + 1, 0, none⟩) 1 1, .func (.func 70) #[] #[]]) (by simp [results, Tryz.results37, go_sem, z0, z1, z2, z3, z4, z5]) rfl ⟨_, rfl, ⟨_, _, _, _, _, _, _, _, rfl, .inl ⟨rfl, rfl⟩⟩, (((((((k0.trans hk1).set (by simp) _).set (by simp) _).set (by simp) _).set (by simp) _).set (by simp) _).set (by simp) _)⟩
set_option maxHeartbeats 8000000 in
set_option maxRecDepth 100000 in
theorem wf_26 (w : World) : Calls Tryz.prog 37 #[.int .i64 26] w fun e w' => ∃ v, e = .returned v ∧ WfV w' v 71 none ∧ Kept w w' := by
  have r0 := Cells.new w 71 zeroW
  have k0 : Kept w (w.alloc (.cells zeroW 71)) := Kept.alloc (Below.refl _ _) _
  have s0 := Cells.new (w.alloc (.cells zeroW 71)) 56 #[.int .i64 3]
  simp only [World.size_alloc] at s0
  have r0 := r0.alloc (.cells #[.int .i64 3] 56)
  have k0 : Kept w ((w.alloc (.cells zeroW 71)).alloc (.cells #[.int .i64 3] 56)) := k0.alloc _
  have hC := kidsAs_ok ((w.alloc (.cells zeroW 71)).alloc (.cells #[.int .i64 3] 56)) (some ⟨w.heap.size + 1, 0, none⟩) 1 1
  go_enter Tryz.func37, Tryz.ntmps37
  go_wp2_with (go_at_call 61; refine hC.mono ?_; rintro e w1 ⟨rfl, hk1⟩; have s1 := s0.kept hk1; have r1 := r0.kept hk1; have d0 := r1.cell 0; have d1 := r1.cell 1; have d2 := r1.cell 2; have d3 := r1.cell 3; have d4 := r1.cell 4; have d5 := r1.cell 5; have g0 := r1.frozen 0; have g1 := r1.frozen 1; have g2 := r1.frozen 2; have g3 := r1.frozen 3; have g4 := r1.frozen 4; have g5 := r1.frozen 5; have lr := r1.lt; simp at d0 d1 d2 d3 d4 d5)
  have z := ((((((r1.set 0 (.int .i64 4)).set 1 (.func (.func 60) #[] #[])).set 2 (.int .i64 1)).set 3 (.int .i64 1)).set 4 (.slice (some ⟨w.heap.size + 1, 0, none⟩) 1 1)).set 5 (.func (.func 71) #[] #[]))
  have z0 := z.cell 0; have z1 := z.cell 1; have z2 := z.cell 2; have z3 := z.cell 3; have z4 := z.cell 4; have z5 := z.cell 5
  exact bodyPost_ret (v := .agg #[.int .i64 4, .func (.func 60) #[] #[], .int .i64 1, .int .i64 1, .slice (some ⟨w.heap.size + 1, 0, none⟩) 1 1, .func (.func 71) #[] #[]]) (by simp [results, Tryz.results37, go_sem, z0, z1, z2, z3, z4, z5]) rfl ⟨_, rfl, ⟨_, _, _, _, _, _, _, _, rfl, .inl ⟨rfl, rfl⟩⟩, (((((((k0.trans hk1).set (by simp) _).set (by simp) _).set (by simp) _).set (by simp) _).set (by simp) _).set (by simp) _)⟩
set_option maxHeartbeats 8000000 in
set_option maxRecDepth 100000 in
theorem wf_5 (w : World) : Calls Tryz.prog 37 #[.int .i64 5] w fun e w' => ∃ v, e = .returned v ∧ WfV w' v 66 none ∧ Kept w w' := by
  have r0 := Cells.new w 71 zeroW
  have k0 : Kept w (w.alloc (.cells zeroW 71)) := Kept.alloc (Below.refl _ _) _
  have s0 := Cells.new (w.alloc (.cells zeroW 71)) 56 #[.int .i64 3, .int .i64 1]
  simp only [World.size_alloc] at s0
  have r1 := r0.alloc (.cells #[.int .i64 3, .int .i64 1] 56)
  have k1 : Kept w ((w.alloc (.cells zeroW 71)).alloc (.cells #[.int .i64 3, .int .i64 1] 56)) := k0.alloc _
  have d0 := r1.cell 0; have d1 := r1.cell 1; have d2 := r1.cell 2; have d3 := r1.cell 3; have d4 := r1.cell 4; have d5 := r1.cell 5; have g0 := r1.frozen 0; have g1 := r1.frozen 1; have g2 := r1.frozen 2; have g3 := r1.frozen 3; have g4 := r1.frozen 4; have g5 := r1.frozen 5; have lr := r1.lt; simp at d0 d1 d2 d3 d4 d5
  go_enter Tryz.func37, Tryz.ntmps37
  go_wp2_with fail
  have z := Cells.new w 71 #[.int .i64 2, .func (.func 57) #[] #[], .int .i64 2, .int .i64 3, .slice (some ⟨w.heap.size + 1, 0, none⟩) 2 2, .func (.func 66) #[] #[]]
  have z := z.alloc (.cells #[.int .i64 3, .int .i64 1] 56)
  have z0 := z.cell 0; have z1 := z.cell 1; have z2 := z.cell 2; have z3 := z.cell 3; have z4 := z.cell 4; have z5 := z.cell 5
  have s1 := Cells.new (w.alloc (.cells #[.int .i64 2, .func (.func 57) #[] #[], .int .i64 2, .int .i64 3, .slice (some ⟨w.heap.size + 1, 0, none⟩) 2 2, .func (.func 66) #[] #[]] 71)) 56 #[.int .i64 3, .int .i64 1]
  simp only [World.size_alloc] at s1
  exact bodyPost_ret (v := .agg #[.int .i64 2, .func (.func 57) #[] #[], .int .i64 2, .int .i64 3, .slice (some ⟨w.heap.size + 1, 0, none⟩) 2 2, .func (.func 66) #[] #[]]) (by simp [results, Tryz.results37, go_sem, z0, z1, z2, z3, z4, z5]) rfl ⟨_, rfl, ⟨_, _, _, _, _, _, _, _, rfl, .inl ⟨rfl, rfl⟩⟩, (Kept.alloc (Below.refl _ _) _).alloc _⟩
/-- The value is stored where a zero writer lies. -/
theorem WfV.put6 {W : World} {R : Nat} {v : Value} {f : FuncId} {t : Option ByteArray} (h : WfV W v f t) (hR : Cells W R 71 zeroW) (u0 u1 u2 u3 u4 u5 : Value) :
    WfV ((((((W.setCell ⟨R, 0, none⟩ u0).setCell ⟨R, 1, none⟩ u1).setCell ⟨R, 2, none⟩ u2).setCell ⟨R, 3, none⟩ u3).setCell ⟨R, 4, none⟩ u4).setCell ⟨R, 5, none⟩ u5) v f t := by
  obtain ⟨a, o, b, c, sl, l, cc, lb, e, h | ⟨s, g, h1, h2, h3⟩⟩ := h
  · exact ⟨a, o, b, c, sl, l, cc, lb, e, .inl h⟩
  · have hne : g ≠ R := by
      rintro rfl
      have e1 : W.heap[g]? = some _ := h3
      have e2 : W.heap[g]? = some _ := hR
      rw [e1] at e2
      simp at e2
    exact ⟨a, o, b, c, sl, l, cc, lb, e, .inr ⟨s, g, h1, h2, (((((h3.other (p := ⟨R, 0, none⟩) hne u0).other (p := ⟨R, 1, none⟩) hne u1).other (p := ⟨R, 2, none⟩) hne u2).other (p := ⟨R, 3, none⟩) hne u3).other (p := ⟨R, 4, none⟩) hne u4).other (p := ⟨R, 5, none⟩) hne u5⟩⟩
set_option maxHeartbeats 8000000 in
set_option maxRecDepth 100000 in
theorem wordWriter_f (w : World) (t : ByteArray) : Calls Tryz.prog 88 #[.string t] w fun e w' => ∃ v, e = .returned v ∧ WfV w' v 102 (some t) ∧ Kept w w' := by
  have t0 := Cells.new w 9 #[.string t]
  have r0 := Cells.new (w.alloc (.cells #[.string t] 9)) 71 zeroW
  simp only [World.size_alloc] at r0
  have k0 : Kept w ((w.alloc (.cells #[.string t] 9)).alloc (.cells zeroW 71)) := (Kept.alloc (Below.refl _ _) _).alloc _
  have hC := kidsAs_ok ((w.alloc (.cells #[.string t] 9)).alloc (.cells zeroW 71)) none 0 0
  go_enter Tryz.func88, Tryz.ntmps88
  go_wp2_with (go_at_call 61; refine hC.mono ?_; rintro e w1 ⟨rfl, hk1⟩; have r1 := r0.kept hk1; have d0 := r1.cell 0; have d1 := r1.cell 1; have d2 := r1.cell 2; have d3 := r1.cell 3; have d4 := r1.cell 4; have d5 := r1.cell 5; have g0 := r1.frozen 0; have g1 := r1.frozen 1; have g2 := r1.frozen 2; have g3 := r1.frozen 3; have g4 := r1.frozen 4; have g5 := r1.frozen 5; have lr := r1.lt; simp at d0 d1 d2 d3 d4 d5)
  have z := ((((((r1.set 0 (.int .i64 3)).set 1 (.func (.func 57) #[] #[])).set 2 (.int .i64 0)).set 3 (.int .i64 0)).set 4 (.slice none 0 0)).set 5 (.func (.func 102) #[] #[.pointer (some ⟨w.heap.size, 0, none⟩)]))
  have z0 := z.cell 0; have z1 := z.cell 1; have z2 := z.cell 2; have z3 := z.cell 3; have z4 := z.cell 4; have z5 := z.cell 5
  exact bodyPost_ret (v := .agg #[.int .i64 3, .func (.func 57) #[] #[], .int .i64 0, .int .i64 0, .slice none 0 0, .func (.func 102) #[] #[.pointer (some ⟨w.heap.size, 0, none⟩)]]) (by simp [results, Tryz.results88, go_sem, z0, z1, z2, z3, z4, z5]) rfl ⟨_, rfl, ⟨_, _, _, _, _, _, _, _, rfl, .inr ⟨t, w.heap.size, rfl, rfl, (((((((((t0.alloc (.cells zeroW 71))).kept hk1).other (p := ⟨w.heap.size + 1, 0, none⟩) (by simp) _).other (p := ⟨w.heap.size + 1, 1, none⟩) (by simp) _).other (p := ⟨w.heap.size + 1, 2, none⟩) (by simp) _).other (p := ⟨w.heap.size + 1, 3, none⟩) (by simp) _).other (p := ⟨w.heap.size + 1, 4, none⟩) (by simp) _).other (p := ⟨w.heap.size + 1, 5, none⟩) (by simp) _)⟩⟩, (((((((k0.trans hk1).set (by simp) _).set (by simp) _).set (by simp) _).set (by simp) _).set (by simp) _).set (by simp) _)⟩
set_option maxHeartbeats 8000000 in
set_option maxRecDepth 100000 in
theorem signWriter_f (w : World) (t : ByteArray) : Calls Tryz.prog 91 #[.string t] w fun e w' => ∃ v, e = .returned v ∧ WfV w' v 104 (some t) ∧ Kept w w' := by
  have t0 := Cells.new w 9 #[.string t]
  have r0 := Cells.new (w.alloc (.cells #[.string t] 9)) 71 zeroW
  simp only [World.size_alloc] at r0
  have k0 : Kept w ((w.alloc (.cells #[.string t] 9)).alloc (.cells zeroW 71)) := (Kept.alloc (Below.refl _ _) _).alloc _
  have s0 := Cells.new ((w.alloc (.cells #[.string t] 9)).alloc (.cells zeroW 71)) 56 #[.int .i64 3, .int .i64 3]
  simp only [World.size_alloc] at s0
  have r0 := r0.alloc (.cells #[.int .i64 3, .int .i64 3] 56)
  have k0 := k0.alloc (.cells #[.int .i64 3, .int .i64 3] 56)
  have hC := kidsAs_ok (((w.alloc (.cells #[.string t] 9)).alloc (.cells zeroW 71)).alloc (.cells #[.int .i64 3, .int .i64 3] 56)) (some ⟨w.heap.size + 1 + 1, 0, none⟩) 2 2
  go_enter Tryz.func91, Tryz.ntmps91
  go_wp2_with (go_at_call 61; refine hC.mono ?_; rintro e w1 ⟨rfl, hk1⟩; have s1 := s0.kept hk1; have r1 := r0.kept hk1; have d0 := r1.cell 0; have d1 := r1.cell 1; have d2 := r1.cell 2; have d3 := r1.cell 3; have d4 := r1.cell 4; have d5 := r1.cell 5; have g0 := r1.frozen 0; have g1 := r1.frozen 1; have g2 := r1.frozen 2; have g3 := r1.frozen 3; have g4 := r1.frozen 4; have g5 := r1.frozen 5; have lr := r1.lt; simp at d0 d1 d2 d3 d4 d5)
  have z := ((((((r1.set 0 (.int .i64 3)).set 1 (.func (.func 57) #[] #[])).set 2 (.int .i64 2)).set 3 (.int .i64 2)).set 4 (.slice (some ⟨w.heap.size + 1 + 1, 0, none⟩) 2 2)).set 5 (.func (.func 104) #[] #[.pointer (some ⟨w.heap.size, 0, none⟩)]))
  have z0 := z.cell 0; have z1 := z.cell 1; have z2 := z.cell 2; have z3 := z.cell 3; have z4 := z.cell 4; have z5 := z.cell 5
  exact bodyPost_ret (v := .agg #[.int .i64 3, .func (.func 57) #[] #[], .int .i64 2, .int .i64 2, .slice (some ⟨w.heap.size + 1 + 1, 0, none⟩) 2 2, .func (.func 104) #[] #[.pointer (some ⟨w.heap.size, 0, none⟩)]]) (by simp [results, Tryz.results91, go_sem, z0, z1, z2, z3, z4, z5]) rfl ⟨_, rfl, ⟨_, _, _, _, _, _, _, _, rfl, .inr ⟨t, w.heap.size, rfl, rfl, (((((((((t0.alloc (.cells zeroW 71)).alloc (.cells #[.int .i64 3, .int .i64 3] 56)).kept hk1).other (p := ⟨w.heap.size + 1, 0, none⟩) (by simp) _).other (p := ⟨w.heap.size + 1, 1, none⟩) (by simp) _).other (p := ⟨w.heap.size + 1, 2, none⟩) (by simp) _).other (p := ⟨w.heap.size + 1, 3, none⟩) (by simp) _).other (p := ⟨w.heap.size + 1, 4, none⟩) (by simp) _).other (p := ⟨w.heap.size + 1, 5, none⟩) (by simp) _)⟩⟩, (((((((k0.trans hk1).set (by simp) _).set (by simp) _).set (by simp) _).set (by simp) _).set (by simp) _).set (by simp) _)⟩
set_option maxHeartbeats 8000000 in
set_option maxRecDepth 100000 in
theorem xf_10 (w : World) : Calls Tryz.prog 72 #[.int .i64 10] w fun e w' => ∃ v, e = .returned v ∧ WfV w' v 85 none ∧ Kept w w' := by
  have r0 := Cells.new w 71 zeroW
  have k0 : Kept w (w.alloc (.cells zeroW 71)) := Kept.alloc (Below.refl _ _) _
  have hC := kidsAs_ok (w.alloc (.cells zeroW 71)) none 0 0
  go_enter Tryz.func72, Tryz.ntmps72
  go_wp2_with (go_at_call 61; refine hC.mono ?_; rintro e w1 ⟨rfl, hk1⟩; have r1 := r0.kept hk1; have d0 := r1.cell 0; have d1 := r1.cell 1; have d2 := r1.cell 2; have d3 := r1.cell 3; have d4 := r1.cell 4; have d5 := r1.cell 5; have g0 := r1.frozen 0; have g1 := r1.frozen 1; have g2 := r1.frozen 2; have g3 := r1.frozen 3; have g4 := r1.frozen 4; have g5 := r1.frozen 5; have lr := r1.lt; simp at d0 d1 d2 d3 d4 d5)
  have z := ((((((r1.set 0 (.int .i64 3)).set 1 (.func (.func 84) #[] #[])).set 2 (.int .i64 0)).set 3 (.int .i64 0)).set 4 (.slice none 0 0)).set 5 (.func (.func 85) #[] #[]))
  have z0 := z.cell 0; have z1 := z.cell 1; have z2 := z.cell 2; have z3 := z.cell 3; have z4 := z.cell 4; have z5 := z.cell 5
  exact bodyPost_ret (v := .agg #[.int .i64 3, .func (.func 84) #[] #[], .int .i64 0, .int .i64 0, .slice none 0 0, .func (.func 85) #[] #[]]) (by simp [results, Tryz.results72, go_sem, z0, z1, z2, z3, z4, z5]) rfl ⟨_, rfl, ⟨_, _, _, _, _, _, _, _, rfl, .inl ⟨rfl, rfl⟩⟩, (((((((k0.trans hk1).set (by simp) _).set (by simp) _).set (by simp) _).set (by simp) _).set (by simp) _).set (by simp) _)⟩
set_option maxHeartbeats 8000000 in
set_option maxRecDepth 100000 in
theorem xf_11 (w : World) : Calls Tryz.prog 72 #[.int .i64 11] w fun e w' => ∃ v, e = .returned v ∧ WfV w' v 87 none ∧ Kept w w' := by
  have r0 := Cells.new w 71 zeroW
  have k0 : Kept w (w.alloc (.cells zeroW 71)) := Kept.alloc (Below.refl _ _) _
  have hC := kidsAs_ok (w.alloc (.cells zeroW 71)) none 0 0
  go_enter Tryz.func72, Tryz.ntmps72
  go_wp2_with (go_at_call 61; refine hC.mono ?_; rintro e w1 ⟨rfl, hk1⟩; have r1 := r0.kept hk1; have d0 := r1.cell 0; have d1 := r1.cell 1; have d2 := r1.cell 2; have d3 := r1.cell 3; have d4 := r1.cell 4; have d5 := r1.cell 5; have g0 := r1.frozen 0; have g1 := r1.frozen 1; have g2 := r1.frozen 2; have g3 := r1.frozen 3; have g4 := r1.frozen 4; have g5 := r1.frozen 5; have lr := r1.lt; simp at d0 d1 d2 d3 d4 d5)
  have z := ((((((r1.set 0 (.int .i64 3)).set 1 (.func (.func 86) #[] #[])).set 2 (.int .i64 0)).set 3 (.int .i64 0)).set 4 (.slice none 0 0)).set 5 (.func (.func 87) #[] #[]))
  have z0 := z.cell 0; have z1 := z.cell 1; have z2 := z.cell 2; have z3 := z.cell 3; have z4 := z.cell 4; have z5 := z.cell 5
  exact bodyPost_ret (v := .agg #[.int .i64 3, .func (.func 86) #[] #[], .int .i64 0, .int .i64 0, .slice none 0 0, .func (.func 87) #[] #[]]) (by simp [results, Tryz.results72, go_sem, z0, z1, z2, z3, z4, z5]) rfl ⟨_, rfl, ⟨_, _, _, _, _, _, _, _, rfl, .inl ⟨rfl, rfl⟩⟩, (((((((k0.trans hk1).set (by simp) _).set (by simp) _).set (by simp) _).set (by simp) _).set (by simp) _).set (by simp) _)⟩
set_option maxHeartbeats 8000000 in
set_option maxRecDepth 100000 in
theorem xf_16 (w : World) : Calls Tryz.prog 72 #[.int .i64 16] w fun e w' => ∃ v, e = .returned v ∧ WfV w' v 89 none ∧ Kept w w' := by
  have r0 := Cells.new w 71 zeroW
  have k0 : Kept w (w.alloc (.cells zeroW 71)) := Kept.alloc (Below.refl _ _) _
  have hC := kidsAs_ok (w.alloc (.cells zeroW 71)) none 0 0
  go_enter Tryz.func72, Tryz.ntmps72
  go_wp2_with (go_at_call 61; refine hC.mono ?_; rintro e w1 ⟨rfl, hk1⟩; have r1 := r0.kept hk1; have d0 := r1.cell 0; have d1 := r1.cell 1; have d2 := r1.cell 2; have d3 := r1.cell 3; have d4 := r1.cell 4; have d5 := r1.cell 5; have g0 := r1.frozen 0; have g1 := r1.frozen 1; have g2 := r1.frozen 2; have g3 := r1.frozen 3; have g4 := r1.frozen 4; have g5 := r1.frozen 5; have lr := r1.lt; simp at d0 d1 d2 d3 d4 d5)
  have z := ((((((r1.set 0 (.int .i64 3)).set 1 (.func (.func 60) #[] #[])).set 2 (.int .i64 0)).set 3 (.int .i64 0)).set 4 (.slice none 0 0)).set 5 (.func (.func 89) #[] #[]))
  have z0 := z.cell 0; have z1 := z.cell 1; have z2 := z.cell 2; have z3 := z.cell 3; have z4 := z.cell 4; have z5 := z.cell 5
  exact bodyPost_ret (v := .agg #[.int .i64 3, .func (.func 60) #[] #[], .int .i64 0, .int .i64 0, .slice none 0 0, .func (.func 89) #[] #[]]) (by simp [results, Tryz.results72, go_sem, z0, z1, z2, z3, z4, z5]) rfl ⟨_, rfl, ⟨_, _, _, _, _, _, _, _, rfl, .inl ⟨rfl, rfl⟩⟩, (((((((k0.trans hk1).set (by simp) _).set (by simp) _).set (by simp) _).set (by simp) _).set (by simp) _).set (by simp) _)⟩
set_option maxHeartbeats 8000000 in
set_option maxRecDepth 100000 in
theorem xf_17 (w : World) : Calls Tryz.prog 72 #[.int .i64 17] w fun e w' => ∃ v, e = .returned v ∧ WfV w' v 83 none ∧ Kept w w' := by
  have r0 := Cells.new w 71 zeroW
  have k0 : Kept w (w.alloc (.cells zeroW 71)) := Kept.alloc (Below.refl _ _) _
  have s0 := Cells.new (w.alloc (.cells zeroW 71)) 56 #[.int .i64 3]
  simp only [World.size_alloc] at s0
  have r0 := r0.alloc (.cells #[.int .i64 3] 56)
  have k0 : Kept w ((w.alloc (.cells zeroW 71)).alloc (.cells #[.int .i64 3] 56)) := k0.alloc _
  have hC := kidsAs_ok ((w.alloc (.cells zeroW 71)).alloc (.cells #[.int .i64 3] 56)) (some ⟨w.heap.size + 1, 0, none⟩) 1 1
  go_enter Tryz.func72, Tryz.ntmps72
  go_wp2_with (go_at_call 61; refine hC.mono ?_; rintro e w1 ⟨rfl, hk1⟩; have s1 := s0.kept hk1; have r1 := r0.kept hk1; have d0 := r1.cell 0; have d1 := r1.cell 1; have d2 := r1.cell 2; have d3 := r1.cell 3; have d4 := r1.cell 4; have d5 := r1.cell 5; have g0 := r1.frozen 0; have g1 := r1.frozen 1; have g2 := r1.frozen 2; have g3 := r1.frozen 3; have g4 := r1.frozen 4; have g5 := r1.frozen 5; have lr := r1.lt; simp at d0 d1 d2 d3 d4 d5)
  have z := ((((((r1.set 0 (.int .i64 3)).set 1 (.func (.func 64) #[] #[])).set 2 (.int .i64 1)).set 3 (.int .i64 1)).set 4 (.slice (some ⟨w.heap.size + 1, 0, none⟩) 1 1)).set 5 (.func (.func 83) #[] #[]))
  have z0 := z.cell 0; have z1 := z.cell 1; have z2 := z.cell 2; have z3 := z.cell 3; have z4 := z.cell 4; have z5 := z.cell 5
  exact bodyPost_ret (v := .agg #[.int .i64 3, .func (.func 64) #[] #[], .int .i64 1, .int .i64 1, .slice (some ⟨w.heap.size + 1, 0, none⟩) 1 1, .func (.func 83) #[] #[]]) (by simp [results, Tryz.results72, go_sem, z0, z1, z2, z3, z4, z5]) rfl ⟨_, rfl, ⟨_, _, _, _, _, _, _, _, rfl, .inl ⟨rfl, rfl⟩⟩, (((((((k0.trans hk1).set (by simp) _).set (by simp) _).set (by simp) _).set (by simp) _).set (by simp) _).set (by simp) _)⟩
set_option maxHeartbeats 8000000 in
set_option maxRecDepth 100000 in
theorem xf_24 (w : World) : Calls Tryz.prog 72 #[.int .i64 24] w fun e w' => ∃ v, e = .returned v ∧ WfV w' v 92 none ∧ Kept w w' := by
  have r0 := Cells.new w 71 zeroW
  have k0 : Kept w (w.alloc (.cells zeroW 71)) := Kept.alloc (Below.refl _ _) _
  have s0 := Cells.new (w.alloc (.cells zeroW 71)) 56 #[.int .i64 3]
  simp only [World.size_alloc] at s0
  have r0 := r0.alloc (.cells #[.int .i64 3] 56)
  have k0 : Kept w ((w.alloc (.cells zeroW 71)).alloc (.cells #[.int .i64 3] 56)) := k0.alloc _
  have hC := kidsAs_ok ((w.alloc (.cells zeroW 71)).alloc (.cells #[.int .i64 3] 56)) (some ⟨w.heap.size + 1, 0, none⟩) 1 1
  go_enter Tryz.func72, Tryz.ntmps72
  go_wp2_with (go_at_call 61; refine hC.mono ?_; rintro e w1 ⟨rfl, hk1⟩; have s1 := s0.kept hk1; have r1 := r0.kept hk1; have d0 := r1.cell 0; have d1 := r1.cell 1; have d2 := r1.cell 2; have d3 := r1.cell 3; have d4 := r1.cell 4; have d5 := r1.cell 5; have g0 := r1.frozen 0; have g1 := r1.frozen 1; have g2 := r1.frozen 2; have g3 := r1.frozen 3; have g4 := r1.frozen 4; have g5 := r1.frozen 5; have lr := r1.lt; simp at d0 d1 d2 d3 d4 d5)
  have z := ((((((r1.set 0 (.int .i64 3)).set 1 (.func (.func 57) #[] #[])).set 2 (.int .i64 1)).set 3 (.int .i64 1)).set 4 (.slice (some ⟨w.heap.size + 1, 0, none⟩) 1 1)).set 5 (.func (.func 92) #[] #[]))
  have z0 := z.cell 0; have z1 := z.cell 1; have z2 := z.cell 2; have z3 := z.cell 3; have z4 := z.cell 4; have z5 := z.cell 5
  exact bodyPost_ret (v := .agg #[.int .i64 3, .func (.func 57) #[] #[], .int .i64 1, .int .i64 1, .slice (some ⟨w.heap.size + 1, 0, none⟩) 1 1, .func (.func 92) #[] #[]]) (by simp [results, Tryz.results72, go_sem, z0, z1, z2, z3, z4, z5]) rfl ⟨_, rfl, ⟨_, _, _, _, _, _, _, _, rfl, .inl ⟨rfl, rfl⟩⟩, (((((((k0.trans hk1).set (by simp) _).set (by simp) _).set (by simp) _).set (by simp) _).set (by simp) _).set (by simp) _)⟩
set_option maxHeartbeats 8000000 in
set_option maxRecDepth 100000 in
theorem xf_27 (w : World) : Calls Tryz.prog 72 #[.int .i64 27] w fun e w' => ∃ v, e = .returned v ∧ WfV w' v 95 none ∧ Kept w w' := by
  have r0 := Cells.new w 71 zeroW
  have k0 : Kept w (w.alloc (.cells zeroW 71)) := Kept.alloc (Below.refl _ _) _
  have s0 := Cells.new (w.alloc (.cells zeroW 71)) 56 #[.int .i64 1]
  simp only [World.size_alloc] at s0
  have r0 := r0.alloc (.cells #[.int .i64 1] 56)
  have k0 : Kept w ((w.alloc (.cells zeroW 71)).alloc (.cells #[.int .i64 1] 56)) := k0.alloc _
  have hC := kidsAs_ok ((w.alloc (.cells zeroW 71)).alloc (.cells #[.int .i64 1] 56)) (some ⟨w.heap.size + 1, 0, none⟩) 1 1
  go_enter Tryz.func72, Tryz.ntmps72
  go_wp2_with (go_at_call 61; refine hC.mono ?_; rintro e w1 ⟨rfl, hk1⟩; have s1 := s0.kept hk1; have r1 := r0.kept hk1; have d0 := r1.cell 0; have d1 := r1.cell 1; have d2 := r1.cell 2; have d3 := r1.cell 3; have d4 := r1.cell 4; have d5 := r1.cell 5; have g0 := r1.frozen 0; have g1 := r1.frozen 1; have g2 := r1.frozen 2; have g3 := r1.frozen 3; have g4 := r1.frozen 4; have g5 := r1.frozen 5; have lr := r1.lt; simp at d0 d1 d2 d3 d4 d5)
  have z := ((((((r1.set 0 (.int .i64 3)).set 1 (.func (.func 94) #[] #[])).set 2 (.int .i64 1)).set 3 (.int .i64 1)).set 4 (.slice (some ⟨w.heap.size + 1, 0, none⟩) 1 1)).set 5 (.func (.func 95) #[] #[]))
  have z0 := z.cell 0; have z1 := z.cell 1; have z2 := z.cell 2; have z3 := z.cell 3; have z4 := z.cell 4; have z5 := z.cell 5
  exact bodyPost_ret (v := .agg #[.int .i64 3, .func (.func 94) #[] #[], .int .i64 1, .int .i64 1, .slice (some ⟨w.heap.size + 1, 0, none⟩) 1 1, .func (.func 95) #[] #[]]) (by simp [results, Tryz.results72, go_sem, z0, z1, z2, z3, z4, z5]) rfl ⟨_, rfl, ⟨_, _, _, _, _, _, _, _, rfl, .inl ⟨rfl, rfl⟩⟩, (((((((k0.trans hk1).set (by simp) _).set (by simp) _).set (by simp) _).set (by simp) _).set (by simp) _).set (by simp) _)⟩
set_option maxHeartbeats 8000000 in
set_option maxRecDepth 100000 in
theorem xf_18 (w : World) : Calls Tryz.prog 72 #[.int .i64 18] w fun e w' => ∃ v, e = .returned v ∧ WfV w' v 90 none ∧ Kept w w' := by
  have r0 := Cells.new w 71 zeroW
  have k0 : Kept w (w.alloc (.cells zeroW 71)) := Kept.alloc (Below.refl _ _) _
  have hC := atLeast_ok (w.alloc (.cells zeroW 71)) 1 3
  go_enter Tryz.func72, Tryz.ntmps72
  go_wp2_with (go_at_call 58; refine hC.mono ?_; rintro e w1 ⟨g, rfl, hg, hk1⟩; have r1 := r0.kept hk1; have d0 := r1.cell 0; have d1 := r1.cell 1; have d2 := r1.cell 2; have d3 := r1.cell 3; have d4 := r1.cell 4; have d5 := r1.cell 5; have g0 := r1.frozen 0; have g1 := r1.frozen 1; have g2 := r1.frozen 2; have g3 := r1.frozen 3; have g4 := r1.frozen 4; have g5 := r1.frozen 5; have lr := r1.lt; simp at d0 d1 d2 d3 d4 d5)
  have hgne : g ≠ w.heap.size := by
    rintro rfl
    rw [d0] at hg
    simp at hg
  have z := ((((((r1.set 0 (.int .i64 3)).set 1 (.func (.func 57) #[] #[])).set 2 (.int .i64 1)).set 3 (.int .i64 200)).set 4 (.slice (some ⟨g, 0, none⟩) 1 1)).set 5 (.func (.func 90) #[] #[]))
  have z0 := z.cell 0; have z1 := z.cell 1; have z2 := z.cell 2; have z3 := z.cell 3; have z4 := z.cell 4; have z5 := z.cell 5
  exact bodyPost_ret (v := .agg #[.int .i64 3, .func (.func 57) #[] #[], .int .i64 1, .int .i64 200, .slice (some ⟨g, 0, none⟩) 1 1, .func (.func 90) #[] #[]]) (by simp [results, Tryz.results72, go_sem, z0, z1, z2, z3, z4, z5]) rfl ⟨_, rfl, ⟨_, _, _, _, _, _, _, _, rfl, .inl ⟨rfl, rfl⟩⟩, (((((((k0.trans hk1).set (by simp) _).set (by simp) _).set (by simp) _).set (by simp) _).set (by simp) _).set (by simp) _)⟩
set_option maxHeartbeats 8000000 in
set_option maxRecDepth 100000 in
theorem xf_25 (w : World) : Calls Tryz.prog 72 #[.int .i64 25] w fun e w' => ∃ v, e = .returned v ∧ WfV w' v 93 none ∧ Kept w w' := by
  have r0 := Cells.new w 71 zeroW
  have k0 : Kept w (w.alloc (.cells zeroW 71)) := Kept.alloc (Below.refl _ _) _
  have hC := atLeast_ok (w.alloc (.cells zeroW 71)) 0 4
  go_enter Tryz.func72, Tryz.ntmps72
  go_wp2_with (go_at_call 58; refine hC.mono ?_; rintro e w1 ⟨g, rfl, hg, hk1⟩; have r1 := r0.kept hk1; have d0 := r1.cell 0; have d1 := r1.cell 1; have d2 := r1.cell 2; have d3 := r1.cell 3; have d4 := r1.cell 4; have d5 := r1.cell 5; have g0 := r1.frozen 0; have g1 := r1.frozen 1; have g2 := r1.frozen 2; have g3 := r1.frozen 3; have g4 := r1.frozen 4; have g5 := r1.frozen 5; have lr := r1.lt; simp at d0 d1 d2 d3 d4 d5)
  have hgne : g ≠ w.heap.size := by
    rintro rfl
    rw [d0] at hg
    simp at hg
  have z := ((((((r1.set 0 (.int .i64 3)).set 1 (.func (.func 57) #[] #[])).set 2 (.int .i64 0)).set 3 (.int .i64 200)).set 4 (.slice (some ⟨g, 0, none⟩) 1 1)).set 5 (.func (.func 93) #[] #[]))
  have z0 := z.cell 0; have z1 := z.cell 1; have z2 := z.cell 2; have z3 := z.cell 3; have z4 := z.cell 4; have z5 := z.cell 5
  exact bodyPost_ret (v := .agg #[.int .i64 3, .func (.func 57) #[] #[], .int .i64 0, .int .i64 200, .slice (some ⟨g, 0, none⟩) 1 1, .func (.func 93) #[] #[]]) (by simp [results, Tryz.results72, go_sem, z0, z1, z2, z3, z4, z5]) rfl ⟨_, rfl, ⟨_, _, _, _, _, _, _, _, rfl, .inl ⟨rfl, rfl⟩⟩, (((((((k0.trans hk1).set (by simp) _).set (by simp) _).set (by simp) _).set (by simp) _).set (by simp) _).set (by simp) _)⟩
set_option maxHeartbeats 8000000 in
set_option maxRecDepth 100000 in
theorem xf_12 (w : World) : Calls Tryz.prog 72 #[.int .i64 12] w fun e w' => ∃ v, e = .returned v ∧ WfV w' v 102 (some ⟨#[116, 114, 117, 101]⟩) ∧ Kept w w' := by
  have r0 := Cells.new w 71 zeroW
  have k0 : Kept w (w.alloc (.cells zeroW 71)) := Kept.alloc (Below.refl _ _) _
  have hC := wordWriter_f (w.alloc (.cells zeroW 71)) ⟨#[116, 114, 117, 101]⟩
  go_enter Tryz.func72, Tryz.ntmps72
  go_wp2_with (go_at_call 88; refine hC.mono ?_; rintro e w1 ⟨v, rfl, hv, hk1⟩; obtain ⟨a, o, b, c, sl, l, cc, lb, rfl, hsl⟩ := id hv; have r1 := r0.kept hk1; have d0 := r1.cell 0; have d1 := r1.cell 1; have d2 := r1.cell 2; have d3 := r1.cell 3; have d4 := r1.cell 4; have d5 := r1.cell 5; have g0 := r1.frozen 0; have g1 := r1.frozen 1; have g2 := r1.frozen 2; have g3 := r1.frozen 3; have g4 := r1.frozen 4; have g5 := r1.frozen 5; have lr := r1.lt; simp at d0 d1 d2 d3 d4 d5)
  have z := ((((((r1.set 0 (.int .i64 a)).set 1 (.func (.func o) #[] #[])).set 2 (.int .i64 b)).set 3 (.int .i64 c)).set 4 (.slice sl l cc)).set 5 (.func (.func 102) #[] lb))
  have z0 := z.cell 0; have z1 := z.cell 1; have z2 := z.cell 2; have z3 := z.cell 3; have z4 := z.cell 4; have z5 := z.cell 5
  exact bodyPost_ret (v := .agg #[.int .i64 a, .func (.func o) #[] #[], .int .i64 b, .int .i64 c, .slice sl l cc, .func (.func 102) #[] lb]) (by simp [results, Tryz.results72, go_sem, z0, z1, z2, z3, z4, z5]) rfl ⟨_, rfl, hv.put6 r1 _ _ _ _ _ _, (((((((k0.trans hk1).set (by simp) _).set (by simp) _).set (by simp) _).set (by simp) _).set (by simp) _).set (by simp) _)⟩
set_option maxHeartbeats 8000000 in
set_option maxRecDepth 100000 in
theorem xf_13 (w : World) : Calls Tryz.prog 72 #[.int .i64 13] w fun e w' => ∃ v, e = .returned v ∧ WfV w' v 102 (some ⟨#[102, 97, 108, 115, 101]⟩) ∧ Kept w w' := by
  have r0 := Cells.new w 71 zeroW
  have k0 : Kept w (w.alloc (.cells zeroW 71)) := Kept.alloc (Below.refl _ _) _
  have hC := wordWriter_f (w.alloc (.cells zeroW 71)) ⟨#[102, 97, 108, 115, 101]⟩
  go_enter Tryz.func72, Tryz.ntmps72
  go_wp2_with (go_at_call 88; refine hC.mono ?_; rintro e w1 ⟨v, rfl, hv, hk1⟩; obtain ⟨a, o, b, c, sl, l, cc, lb, rfl, hsl⟩ := id hv; have r1 := r0.kept hk1; have d0 := r1.cell 0; have d1 := r1.cell 1; have d2 := r1.cell 2; have d3 := r1.cell 3; have d4 := r1.cell 4; have d5 := r1.cell 5; have g0 := r1.frozen 0; have g1 := r1.frozen 1; have g2 := r1.frozen 2; have g3 := r1.frozen 3; have g4 := r1.frozen 4; have g5 := r1.frozen 5; have lr := r1.lt; simp at d0 d1 d2 d3 d4 d5)
  have z := ((((((r1.set 0 (.int .i64 a)).set 1 (.func (.func o) #[] #[])).set 2 (.int .i64 b)).set 3 (.int .i64 c)).set 4 (.slice sl l cc)).set 5 (.func (.func 102) #[] lb))
  have z0 := z.cell 0; have z1 := z.cell 1; have z2 := z.cell 2; have z3 := z.cell 3; have z4 := z.cell 4; have z5 := z.cell 5
  exact bodyPost_ret (v := .agg #[.int .i64 a, .func (.func o) #[] #[], .int .i64 b, .int .i64 c, .slice sl l cc, .func (.func 102) #[] lb]) (by simp [results, Tryz.results72, go_sem, z0, z1, z2, z3, z4, z5]) rfl ⟨_, rfl, hv.put6 r1 _ _ _ _ _ _, (((((((k0.trans hk1).set (by simp) _).set (by simp) _).set (by simp) _).set (by simp) _).set (by simp) _).set (by simp) _)⟩
set_option maxHeartbeats 8000000 in
set_option maxRecDepth 100000 in
theorem xf_14 (w : World) : Calls Tryz.prog 72 #[.int .i64 14] w fun e w' => ∃ v, e = .returned v ∧ WfV w' v 102 (some ⟨#[110, 117, 108, 108]⟩) ∧ Kept w w' := by
  have r0 := Cells.new w 71 zeroW
  have k0 : Kept w (w.alloc (.cells zeroW 71)) := Kept.alloc (Below.refl _ _) _
  have hC := wordWriter_f (w.alloc (.cells zeroW 71)) ⟨#[110, 117, 108, 108]⟩
  go_enter Tryz.func72, Tryz.ntmps72
  go_wp2_with (go_at_call 88; refine hC.mono ?_; rintro e w1 ⟨v, rfl, hv, hk1⟩; obtain ⟨a, o, b, c, sl, l, cc, lb, rfl, hsl⟩ := id hv; have r1 := r0.kept hk1; have d0 := r1.cell 0; have d1 := r1.cell 1; have d2 := r1.cell 2; have d3 := r1.cell 3; have d4 := r1.cell 4; have d5 := r1.cell 5; have g0 := r1.frozen 0; have g1 := r1.frozen 1; have g2 := r1.frozen 2; have g3 := r1.frozen 3; have g4 := r1.frozen 4; have g5 := r1.frozen 5; have lr := r1.lt; simp at d0 d1 d2 d3 d4 d5)
  have z := ((((((r1.set 0 (.int .i64 a)).set 1 (.func (.func o) #[] #[])).set 2 (.int .i64 b)).set 3 (.int .i64 c)).set 4 (.slice sl l cc)).set 5 (.func (.func 102) #[] lb))
  have z0 := z.cell 0; have z1 := z.cell 1; have z2 := z.cell 2; have z3 := z.cell 3; have z4 := z.cell 4; have z5 := z.cell 5
  exact bodyPost_ret (v := .agg #[.int .i64 a, .func (.func o) #[] #[], .int .i64 b, .int .i64 c, .slice sl l cc, .func (.func 102) #[] lb]) (by simp [results, Tryz.results72, go_sem, z0, z1, z2, z3, z4, z5]) rfl ⟨_, rfl, hv.put6 r1 _ _ _ _ _ _, (((((((k0.trans hk1).set (by simp) _).set (by simp) _).set (by simp) _).set (by simp) _).set (by simp) _).set (by simp) _)⟩
set_option maxHeartbeats 8000000 in
set_option maxRecDepth 100000 in
theorem xf_15 (w : World) : Calls Tryz.prog 72 #[.int .i64 15] w fun e w' => ∃ v, e = .returned v ∧ WfV w' v 102 (some ⟨#[117, 110, 100, 101, 102, 105, 110, 101, 100]⟩) ∧ Kept w w' := by
  have r0 := Cells.new w 71 zeroW
  have k0 : Kept w (w.alloc (.cells zeroW 71)) := Kept.alloc (Below.refl _ _) _
  have hC := wordWriter_f (w.alloc (.cells zeroW 71)) ⟨#[117, 110, 100, 101, 102, 105, 110, 101, 100]⟩
  go_enter Tryz.func72, Tryz.ntmps72
  go_wp2_with (go_at_call 88; refine hC.mono ?_; rintro e w1 ⟨v, rfl, hv, hk1⟩; obtain ⟨a, o, b, c, sl, l, cc, lb, rfl, hsl⟩ := id hv; have r1 := r0.kept hk1; have d0 := r1.cell 0; have d1 := r1.cell 1; have d2 := r1.cell 2; have d3 := r1.cell 3; have d4 := r1.cell 4; have d5 := r1.cell 5; have g0 := r1.frozen 0; have g1 := r1.frozen 1; have g2 := r1.frozen 2; have g3 := r1.frozen 3; have g4 := r1.frozen 4; have g5 := r1.frozen 5; have lr := r1.lt; simp at d0 d1 d2 d3 d4 d5)
  have z := ((((((r1.set 0 (.int .i64 a)).set 1 (.func (.func o) #[] #[])).set 2 (.int .i64 b)).set 3 (.int .i64 c)).set 4 (.slice sl l cc)).set 5 (.func (.func 102) #[] lb))
  have z0 := z.cell 0; have z1 := z.cell 1; have z2 := z.cell 2; have z3 := z.cell 3; have z4 := z.cell 4; have z5 := z.cell 5
  exact bodyPost_ret (v := .agg #[.int .i64 a, .func (.func o) #[] #[], .int .i64 b, .int .i64 c, .slice sl l cc, .func (.func 102) #[] lb]) (by simp [results, Tryz.results72, go_sem, z0, z1, z2, z3, z4, z5]) rfl ⟨_, rfl, hv.put6 r1 _ _ _ _ _ _, (((((((k0.trans hk1).set (by simp) _).set (by simp) _).set (by simp) _).set (by simp) _).set (by simp) _).set (by simp) _)⟩
set_option maxHeartbeats 8000000 in
set_option maxRecDepth 100000 in
theorem xf_19 (w : World) : Calls Tryz.prog 72 #[.int .i64 19] w fun e w' => ∃ v, e = .returned v ∧ WfV w' v 104 (some ⟨#[43]⟩) ∧ Kept w w' := by
  have r0 := Cells.new w 71 zeroW
  have k0 : Kept w (w.alloc (.cells zeroW 71)) := Kept.alloc (Below.refl _ _) _
  have hC := signWriter_f (w.alloc (.cells zeroW 71)) ⟨#[43]⟩
  go_enter Tryz.func72, Tryz.ntmps72
  go_wp2_with (go_at_call 91; refine hC.mono ?_; rintro e w1 ⟨v, rfl, hv, hk1⟩; obtain ⟨a, o, b, c, sl, l, cc, lb, rfl, hsl⟩ := id hv; have r1 := r0.kept hk1; have d0 := r1.cell 0; have d1 := r1.cell 1; have d2 := r1.cell 2; have d3 := r1.cell 3; have d4 := r1.cell 4; have d5 := r1.cell 5; have g0 := r1.frozen 0; have g1 := r1.frozen 1; have g2 := r1.frozen 2; have g3 := r1.frozen 3; have g4 := r1.frozen 4; have g5 := r1.frozen 5; have lr := r1.lt; simp at d0 d1 d2 d3 d4 d5)
  have z := ((((((r1.set 0 (.int .i64 a)).set 1 (.func (.func o) #[] #[])).set 2 (.int .i64 b)).set 3 (.int .i64 c)).set 4 (.slice sl l cc)).set 5 (.func (.func 104) #[] lb))
  have z0 := z.cell 0; have z1 := z.cell 1; have z2 := z.cell 2; have z3 := z.cell 3; have z4 := z.cell 4; have z5 := z.cell 5
  exact bodyPost_ret (v := .agg #[.int .i64 a, .func (.func o) #[] #[], .int .i64 b, .int .i64 c, .slice sl l cc, .func (.func 104) #[] lb]) (by simp [results, Tryz.results72, go_sem, z0, z1, z2, z3, z4, z5]) rfl ⟨_, rfl, hv.put6 r1 _ _ _ _ _ _, (((((((k0.trans hk1).set (by simp) _).set (by simp) _).set (by simp) _).set (by simp) _).set (by simp) _).set (by simp) _)⟩
set_option maxHeartbeats 8000000 in
set_option maxRecDepth 100000 in
theorem xf_20 (w : World) : Calls Tryz.prog 72 #[.int .i64 20] w fun e w' => ∃ v, e = .returned v ∧ WfV w' v 104 (some ⟨#[45]⟩) ∧ Kept w w' := by
  have r0 := Cells.new w 71 zeroW
  have k0 : Kept w (w.alloc (.cells zeroW 71)) := Kept.alloc (Below.refl _ _) _
  have hC := signWriter_f (w.alloc (.cells zeroW 71)) ⟨#[45]⟩
  go_enter Tryz.func72, Tryz.ntmps72
  go_wp2_with (go_at_call 91; refine hC.mono ?_; rintro e w1 ⟨v, rfl, hv, hk1⟩; obtain ⟨a, o, b, c, sl, l, cc, lb, rfl, hsl⟩ := id hv; have r1 := r0.kept hk1; have d0 := r1.cell 0; have d1 := r1.cell 1; have d2 := r1.cell 2; have d3 := r1.cell 3; have d4 := r1.cell 4; have d5 := r1.cell 5; have g0 := r1.frozen 0; have g1 := r1.frozen 1; have g2 := r1.frozen 2; have g3 := r1.frozen 3; have g4 := r1.frozen 4; have g5 := r1.frozen 5; have lr := r1.lt; simp at d0 d1 d2 d3 d4 d5)
  have z := ((((((r1.set 0 (.int .i64 a)).set 1 (.func (.func o) #[] #[])).set 2 (.int .i64 b)).set 3 (.int .i64 c)).set 4 (.slice sl l cc)).set 5 (.func (.func 104) #[] lb))
  have z0 := z.cell 0; have z1 := z.cell 1; have z2 := z.cell 2; have z3 := z.cell 3; have z4 := z.cell 4; have z5 := z.cell 5
  exact bodyPost_ret (v := .agg #[.int .i64 a, .func (.func o) #[] #[], .int .i64 b, .int .i64 c, .slice sl l cc, .func (.func 104) #[] lb]) (by simp [results, Tryz.results72, go_sem, z0, z1, z2, z3, z4, z5]) rfl ⟨_, rfl, hv.put6 r1 _ _ _ _ _ _, (((((((k0.trans hk1).set (by simp) _).set (by simp) _).set (by simp) _).set (by simp) _).set (by simp) _).set (by simp) _)⟩
set_option maxHeartbeats 8000000 in
set_option maxRecDepth 100000 in
theorem xf_21 (w : World) : Calls Tryz.prog 72 #[.int .i64 21] w fun e w' => ∃ v, e = .returned v ∧ WfV w' v 104 (some ⟨#[42]⟩) ∧ Kept w w' := by
  have r0 := Cells.new w 71 zeroW
  have k0 : Kept w (w.alloc (.cells zeroW 71)) := Kept.alloc (Below.refl _ _) _
  have hC := signWriter_f (w.alloc (.cells zeroW 71)) ⟨#[42]⟩
  go_enter Tryz.func72, Tryz.ntmps72
  go_wp2_with (go_at_call 91; refine hC.mono ?_; rintro e w1 ⟨v, rfl, hv, hk1⟩; obtain ⟨a, o, b, c, sl, l, cc, lb, rfl, hsl⟩ := id hv; have r1 := r0.kept hk1; have d0 := r1.cell 0; have d1 := r1.cell 1; have d2 := r1.cell 2; have d3 := r1.cell 3; have d4 := r1.cell 4; have d5 := r1.cell 5; have g0 := r1.frozen 0; have g1 := r1.frozen 1; have g2 := r1.frozen 2; have g3 := r1.frozen 3; have g4 := r1.frozen 4; have g5 := r1.frozen 5; have lr := r1.lt; simp at d0 d1 d2 d3 d4 d5)
  have z := ((((((r1.set 0 (.int .i64 a)).set 1 (.func (.func o) #[] #[])).set 2 (.int .i64 b)).set 3 (.int .i64 c)).set 4 (.slice sl l cc)).set 5 (.func (.func 104) #[] lb))
  have z0 := z.cell 0; have z1 := z.cell 1; have z2 := z.cell 2; have z3 := z.cell 3; have z4 := z.cell 4; have z5 := z.cell 5
  exact bodyPost_ret (v := .agg #[.int .i64 a, .func (.func o) #[] #[], .int .i64 b, .int .i64 c, .slice sl l cc, .func (.func 104) #[] lb]) (by simp [results, Tryz.results72, go_sem, z0, z1, z2, z3, z4, z5]) rfl ⟨_, rfl, hv.put6 r1 _ _ _ _ _ _, (((((((k0.trans hk1).set (by simp) _).set (by simp) _).set (by simp) _).set (by simp) _).set (by simp) _).set (by simp) _)⟩
set_option maxHeartbeats 8000000 in
set_option maxRecDepth 100000 in
theorem xf_22 (w : World) : Calls Tryz.prog 72 #[.int .i64 22] w fun e w' => ∃ v, e = .returned v ∧ WfV w' v 104 (some ⟨#[60]⟩) ∧ Kept w w' := by
  have r0 := Cells.new w 71 zeroW
  have k0 : Kept w (w.alloc (.cells zeroW 71)) := Kept.alloc (Below.refl _ _) _
  have hC := signWriter_f (w.alloc (.cells zeroW 71)) ⟨#[60]⟩
  go_enter Tryz.func72, Tryz.ntmps72
  go_wp2_with (go_at_call 91; refine hC.mono ?_; rintro e w1 ⟨v, rfl, hv, hk1⟩; obtain ⟨a, o, b, c, sl, l, cc, lb, rfl, hsl⟩ := id hv; have r1 := r0.kept hk1; have d0 := r1.cell 0; have d1 := r1.cell 1; have d2 := r1.cell 2; have d3 := r1.cell 3; have d4 := r1.cell 4; have d5 := r1.cell 5; have g0 := r1.frozen 0; have g1 := r1.frozen 1; have g2 := r1.frozen 2; have g3 := r1.frozen 3; have g4 := r1.frozen 4; have g5 := r1.frozen 5; have lr := r1.lt; simp at d0 d1 d2 d3 d4 d5)
  have z := ((((((r1.set 0 (.int .i64 a)).set 1 (.func (.func o) #[] #[])).set 2 (.int .i64 b)).set 3 (.int .i64 c)).set 4 (.slice sl l cc)).set 5 (.func (.func 104) #[] lb))
  have z0 := z.cell 0; have z1 := z.cell 1; have z2 := z.cell 2; have z3 := z.cell 3; have z4 := z.cell 4; have z5 := z.cell 5
  exact bodyPost_ret (v := .agg #[.int .i64 a, .func (.func o) #[] #[], .int .i64 b, .int .i64 c, .slice sl l cc, .func (.func 104) #[] lb]) (by simp [results, Tryz.results72, go_sem, z0, z1, z2, z3, z4, z5]) rfl ⟨_, rfl, hv.put6 r1 _ _ _ _ _ _, (((((((k0.trans hk1).set (by simp) _).set (by simp) _).set (by simp) _).set (by simp) _).set (by simp) _).set (by simp) _)⟩
set_option maxHeartbeats 8000000 in
set_option maxRecDepth 100000 in
theorem xf_23 (w : World) : Calls Tryz.prog 72 #[.int .i64 23] w fun e w' => ∃ v, e = .returned v ∧ WfV w' v 104 (some ⟨#[61, 61]⟩) ∧ Kept w w' := by
  have r0 := Cells.new w 71 zeroW
  have k0 : Kept w (w.alloc (.cells zeroW 71)) := Kept.alloc (Below.refl _ _) _
  have hC := signWriter_f (w.alloc (.cells zeroW 71)) ⟨#[61, 61]⟩
  go_enter Tryz.func72, Tryz.ntmps72
  go_wp2_with (go_at_call 91; refine hC.mono ?_; rintro e w1 ⟨v, rfl, hv, hk1⟩; obtain ⟨a, o, b, c, sl, l, cc, lb, rfl, hsl⟩ := id hv; have r1 := r0.kept hk1; have d0 := r1.cell 0; have d1 := r1.cell 1; have d2 := r1.cell 2; have d3 := r1.cell 3; have d4 := r1.cell 4; have d5 := r1.cell 5; have g0 := r1.frozen 0; have g1 := r1.frozen 1; have g2 := r1.frozen 2; have g3 := r1.frozen 3; have g4 := r1.frozen 4; have g5 := r1.frozen 5; have lr := r1.lt; simp at d0 d1 d2 d3 d4 d5)
  have z := ((((((r1.set 0 (.int .i64 a)).set 1 (.func (.func o) #[] #[])).set 2 (.int .i64 b)).set 3 (.int .i64 c)).set 4 (.slice sl l cc)).set 5 (.func (.func 104) #[] lb))
  have z0 := z.cell 0; have z1 := z.cell 1; have z2 := z.cell 2; have z3 := z.cell 3; have z4 := z.cell 4; have z5 := z.cell 5
  exact bodyPost_ret (v := .agg #[.int .i64 a, .func (.func o) #[] #[], .int .i64 b, .int .i64 c, .slice sl l cc, .func (.func 104) #[] lb]) (by simp [results, Tryz.results72, go_sem, z0, z1, z2, z3, z4, z5]) rfl ⟨_, rfl, hv.put6 r1 _ _ _ _ _ _, (((((((k0.trans hk1).set (by simp) _).set (by simp) _).set (by simp) _).set (by simp) _).set (by simp) _).set (by simp) _)⟩
set_option maxHeartbeats 8000000 in
set_option maxRecDepth 100000 in
theorem wf_10 (w : World) : Calls Tryz.prog 37 #[.int .i64 10] w fun e w' => ∃ v, e = .returned v ∧ WfV w' v 85 none ∧ Kept w w' := by
  have r0 := Cells.new w 71 zeroW
  have k0 : Kept w (w.alloc (.cells zeroW 71)) := Kept.alloc (Below.refl _ _) _
  have hC := xf_10 (w.alloc (.cells zeroW 71))
  go_enter Tryz.func37, Tryz.ntmps37
  go_wp2_with (go_at_call 72; refine hC.mono ?_; rintro e w1 ⟨v, rfl, hv, hk1⟩; obtain ⟨a, o, b, c, sl, l, cc, lb, rfl, hsl⟩ := id hv; have r1 := r0.kept hk1; have d0 := r1.cell 0; have d1 := r1.cell 1; have d2 := r1.cell 2; have d3 := r1.cell 3; have d4 := r1.cell 4; have d5 := r1.cell 5; have g0 := r1.frozen 0; have g1 := r1.frozen 1; have g2 := r1.frozen 2; have g3 := r1.frozen 3; have g4 := r1.frozen 4; have g5 := r1.frozen 5; have lr := r1.lt; simp at d0 d1 d2 d3 d4 d5)
  have z := ((((((r1.set 0 (.int .i64 a)).set 1 (.func (.func o) #[] #[])).set 2 (.int .i64 b)).set 3 (.int .i64 c)).set 4 (.slice sl l cc)).set 5 (.func (.func 85) #[] lb))
  have z0 := z.cell 0; have z1 := z.cell 1; have z2 := z.cell 2; have z3 := z.cell 3; have z4 := z.cell 4; have z5 := z.cell 5
  exact bodyPost_ret (v := .agg #[.int .i64 a, .func (.func o) #[] #[], .int .i64 b, .int .i64 c, .slice sl l cc, .func (.func 85) #[] lb]) (by simp [results, Tryz.results37, go_sem, z0, z1, z2, z3, z4, z5]) rfl ⟨_, rfl, hv.put6 r1 _ _ _ _ _ _, (((((((k0.trans hk1).set (by simp) _).set (by simp) _).set (by simp) _).set (by simp) _).set (by simp) _).set (by simp) _)⟩
set_option maxHeartbeats 8000000 in
set_option maxRecDepth 100000 in
theorem wf_11 (w : World) : Calls Tryz.prog 37 #[.int .i64 11] w fun e w' => ∃ v, e = .returned v ∧ WfV w' v 87 none ∧ Kept w w' := by
  have r0 := Cells.new w 71 zeroW
  have k0 : Kept w (w.alloc (.cells zeroW 71)) := Kept.alloc (Below.refl _ _) _
  have hC := xf_11 (w.alloc (.cells zeroW 71))
  go_enter Tryz.func37, Tryz.ntmps37
  go_wp2_with (go_at_call 72; refine hC.mono ?_; rintro e w1 ⟨v, rfl, hv, hk1⟩; obtain ⟨a, o, b, c, sl, l, cc, lb, rfl, hsl⟩ := id hv; have r1 := r0.kept hk1; have d0 := r1.cell 0; have d1 := r1.cell 1; have d2 := r1.cell 2; have d3 := r1.cell 3; have d4 := r1.cell 4; have d5 := r1.cell 5; have g0 := r1.frozen 0; have g1 := r1.frozen 1; have g2 := r1.frozen 2; have g3 := r1.frozen 3; have g4 := r1.frozen 4; have g5 := r1.frozen 5; have lr := r1.lt; simp at d0 d1 d2 d3 d4 d5)
  have z := ((((((r1.set 0 (.int .i64 a)).set 1 (.func (.func o) #[] #[])).set 2 (.int .i64 b)).set 3 (.int .i64 c)).set 4 (.slice sl l cc)).set 5 (.func (.func 87) #[] lb))
  have z0 := z.cell 0; have z1 := z.cell 1; have z2 := z.cell 2; have z3 := z.cell 3; have z4 := z.cell 4; have z5 := z.cell 5
  exact bodyPost_ret (v := .agg #[.int .i64 a, .func (.func o) #[] #[], .int .i64 b, .int .i64 c, .slice sl l cc, .func (.func 87) #[] lb]) (by simp [results, Tryz.results37, go_sem, z0, z1, z2, z3, z4, z5]) rfl ⟨_, rfl, hv.put6 r1 _ _ _ _ _ _, (((((((k0.trans hk1).set (by simp) _).set (by simp) _).set (by simp) _).set (by simp) _).set (by simp) _).set (by simp) _)⟩
set_option maxHeartbeats 8000000 in
set_option maxRecDepth 100000 in
theorem wf_12 (w : World) : Calls Tryz.prog 37 #[.int .i64 12] w fun e w' => ∃ v, e = .returned v ∧ WfV w' v 102 (some ⟨#[116, 114, 117, 101]⟩) ∧ Kept w w' := by
  have r0 := Cells.new w 71 zeroW
  have k0 : Kept w (w.alloc (.cells zeroW 71)) := Kept.alloc (Below.refl _ _) _
  have hC := xf_12 (w.alloc (.cells zeroW 71))
  go_enter Tryz.func37, Tryz.ntmps37
  go_wp2_with (go_at_call 72; refine hC.mono ?_; rintro e w1 ⟨v, rfl, hv, hk1⟩; obtain ⟨a, o, b, c, sl, l, cc, lb, rfl, hsl⟩ := id hv; have r1 := r0.kept hk1; have d0 := r1.cell 0; have d1 := r1.cell 1; have d2 := r1.cell 2; have d3 := r1.cell 3; have d4 := r1.cell 4; have d5 := r1.cell 5; have g0 := r1.frozen 0; have g1 := r1.frozen 1; have g2 := r1.frozen 2; have g3 := r1.frozen 3; have g4 := r1.frozen 4; have g5 := r1.frozen 5; have lr := r1.lt; simp at d0 d1 d2 d3 d4 d5)
  have z := ((((((r1.set 0 (.int .i64 a)).set 1 (.func (.func o) #[] #[])).set 2 (.int .i64 b)).set 3 (.int .i64 c)).set 4 (.slice sl l cc)).set 5 (.func (.func 102) #[] lb))
  have z0 := z.cell 0; have z1 := z.cell 1; have z2 := z.cell 2; have z3 := z.cell 3; have z4 := z.cell 4; have z5 := z.cell 5
  exact bodyPost_ret (v := .agg #[.int .i64 a, .func (.func o) #[] #[], .int .i64 b, .int .i64 c, .slice sl l cc, .func (.func 102) #[] lb]) (by simp [results, Tryz.results37, go_sem, z0, z1, z2, z3, z4, z5]) rfl ⟨_, rfl, hv.put6 r1 _ _ _ _ _ _, (((((((k0.trans hk1).set (by simp) _).set (by simp) _).set (by simp) _).set (by simp) _).set (by simp) _).set (by simp) _)⟩
set_option maxHeartbeats 8000000 in
set_option maxRecDepth 100000 in
theorem wf_13 (w : World) : Calls Tryz.prog 37 #[.int .i64 13] w fun e w' => ∃ v, e = .returned v ∧ WfV w' v 102 (some ⟨#[102, 97, 108, 115, 101]⟩) ∧ Kept w w' := by
  have r0 := Cells.new w 71 zeroW
  have k0 : Kept w (w.alloc (.cells zeroW 71)) := Kept.alloc (Below.refl _ _) _
  have hC := xf_13 (w.alloc (.cells zeroW 71))
  go_enter Tryz.func37, Tryz.ntmps37
  go_wp2_with (go_at_call 72; refine hC.mono ?_; rintro e w1 ⟨v, rfl, hv, hk1⟩; obtain ⟨a, o, b, c, sl, l, cc, lb, rfl, hsl⟩ := id hv; have r1 := r0.kept hk1; have d0 := r1.cell 0; have d1 := r1.cell 1; have d2 := r1.cell 2; have d3 := r1.cell 3; have d4 := r1.cell 4; have d5 := r1.cell 5; have g0 := r1.frozen 0; have g1 := r1.frozen 1; have g2 := r1.frozen 2; have g3 := r1.frozen 3; have g4 := r1.frozen 4; have g5 := r1.frozen 5; have lr := r1.lt; simp at d0 d1 d2 d3 d4 d5)
  have z := ((((((r1.set 0 (.int .i64 a)).set 1 (.func (.func o) #[] #[])).set 2 (.int .i64 b)).set 3 (.int .i64 c)).set 4 (.slice sl l cc)).set 5 (.func (.func 102) #[] lb))
  have z0 := z.cell 0; have z1 := z.cell 1; have z2 := z.cell 2; have z3 := z.cell 3; have z4 := z.cell 4; have z5 := z.cell 5
  exact bodyPost_ret (v := .agg #[.int .i64 a, .func (.func o) #[] #[], .int .i64 b, .int .i64 c, .slice sl l cc, .func (.func 102) #[] lb]) (by simp [results, Tryz.results37, go_sem, z0, z1, z2, z3, z4, z5]) rfl ⟨_, rfl, hv.put6 r1 _ _ _ _ _ _, (((((((k0.trans hk1).set (by simp) _).set (by simp) _).set (by simp) _).set (by simp) _).set (by simp) _).set (by simp) _)⟩
set_option maxHeartbeats 8000000 in
set_option maxRecDepth 100000 in
theorem wf_14 (w : World) : Calls Tryz.prog 37 #[.int .i64 14] w fun e w' => ∃ v, e = .returned v ∧ WfV w' v 102 (some ⟨#[110, 117, 108, 108]⟩) ∧ Kept w w' := by
  have r0 := Cells.new w 71 zeroW
  have k0 : Kept w (w.alloc (.cells zeroW 71)) := Kept.alloc (Below.refl _ _) _
  have hC := xf_14 (w.alloc (.cells zeroW 71))
  go_enter Tryz.func37, Tryz.ntmps37
  go_wp2_with (go_at_call 72; refine hC.mono ?_; rintro e w1 ⟨v, rfl, hv, hk1⟩; obtain ⟨a, o, b, c, sl, l, cc, lb, rfl, hsl⟩ := id hv; have r1 := r0.kept hk1; have d0 := r1.cell 0; have d1 := r1.cell 1; have d2 := r1.cell 2; have d3 := r1.cell 3; have d4 := r1.cell 4; have d5 := r1.cell 5; have g0 := r1.frozen 0; have g1 := r1.frozen 1; have g2 := r1.frozen 2; have g3 := r1.frozen 3; have g4 := r1.frozen 4; have g5 := r1.frozen 5; have lr := r1.lt; simp at d0 d1 d2 d3 d4 d5)
  have z := ((((((r1.set 0 (.int .i64 a)).set 1 (.func (.func o) #[] #[])).set 2 (.int .i64 b)).set 3 (.int .i64 c)).set 4 (.slice sl l cc)).set 5 (.func (.func 102) #[] lb))
  have z0 := z.cell 0; have z1 := z.cell 1; have z2 := z.cell 2; have z3 := z.cell 3; have z4 := z.cell 4; have z5 := z.cell 5
  exact bodyPost_ret (v := .agg #[.int .i64 a, .func (.func o) #[] #[], .int .i64 b, .int .i64 c, .slice sl l cc, .func (.func 102) #[] lb]) (by simp [results, Tryz.results37, go_sem, z0, z1, z2, z3, z4, z5]) rfl ⟨_, rfl, hv.put6 r1 _ _ _ _ _ _, (((((((k0.trans hk1).set (by simp) _).set (by simp) _).set (by simp) _).set (by simp) _).set (by simp) _).set (by simp) _)⟩
set_option maxHeartbeats 8000000 in
set_option maxRecDepth 100000 in
theorem wf_15 (w : World) : Calls Tryz.prog 37 #[.int .i64 15] w fun e w' => ∃ v, e = .returned v ∧ WfV w' v 102 (some ⟨#[117, 110, 100, 101, 102, 105, 110, 101, 100]⟩) ∧ Kept w w' := by
  have r0 := Cells.new w 71 zeroW
  have k0 : Kept w (w.alloc (.cells zeroW 71)) := Kept.alloc (Below.refl _ _) _
  have hC := xf_15 (w.alloc (.cells zeroW 71))
  go_enter Tryz.func37, Tryz.ntmps37
  go_wp2_with (go_at_call 72; refine hC.mono ?_; rintro e w1 ⟨v, rfl, hv, hk1⟩; obtain ⟨a, o, b, c, sl, l, cc, lb, rfl, hsl⟩ := id hv; have r1 := r0.kept hk1; have d0 := r1.cell 0; have d1 := r1.cell 1; have d2 := r1.cell 2; have d3 := r1.cell 3; have d4 := r1.cell 4; have d5 := r1.cell 5; have g0 := r1.frozen 0; have g1 := r1.frozen 1; have g2 := r1.frozen 2; have g3 := r1.frozen 3; have g4 := r1.frozen 4; have g5 := r1.frozen 5; have lr := r1.lt; simp at d0 d1 d2 d3 d4 d5)
  have z := ((((((r1.set 0 (.int .i64 a)).set 1 (.func (.func o) #[] #[])).set 2 (.int .i64 b)).set 3 (.int .i64 c)).set 4 (.slice sl l cc)).set 5 (.func (.func 102) #[] lb))
  have z0 := z.cell 0; have z1 := z.cell 1; have z2 := z.cell 2; have z3 := z.cell 3; have z4 := z.cell 4; have z5 := z.cell 5
  exact bodyPost_ret (v := .agg #[.int .i64 a, .func (.func o) #[] #[], .int .i64 b, .int .i64 c, .slice sl l cc, .func (.func 102) #[] lb]) (by simp [results, Tryz.results37, go_sem, z0, z1, z2, z3, z4, z5]) rfl ⟨_, rfl, hv.put6 r1 _ _ _ _ _ _, (((((((k0.trans hk1).set (by simp) _).set (by simp) _).set (by simp) _).set (by simp) _).set (by simp) _).set (by simp) _)⟩
set_option maxHeartbeats 8000000 in
set_option maxRecDepth 100000 in
theorem wf_16 (w : World) : Calls Tryz.prog 37 #[.int .i64 16] w fun e w' => ∃ v, e = .returned v ∧ WfV w' v 89 none ∧ Kept w w' := by
  have r0 := Cells.new w 71 zeroW
  have k0 : Kept w (w.alloc (.cells zeroW 71)) := Kept.alloc (Below.refl _ _) _
  have hC := xf_16 (w.alloc (.cells zeroW 71))
  go_enter Tryz.func37, Tryz.ntmps37
  go_wp2_with (go_at_call 72; refine hC.mono ?_; rintro e w1 ⟨v, rfl, hv, hk1⟩; obtain ⟨a, o, b, c, sl, l, cc, lb, rfl, hsl⟩ := id hv; have r1 := r0.kept hk1; have d0 := r1.cell 0; have d1 := r1.cell 1; have d2 := r1.cell 2; have d3 := r1.cell 3; have d4 := r1.cell 4; have d5 := r1.cell 5; have g0 := r1.frozen 0; have g1 := r1.frozen 1; have g2 := r1.frozen 2; have g3 := r1.frozen 3; have g4 := r1.frozen 4; have g5 := r1.frozen 5; have lr := r1.lt; simp at d0 d1 d2 d3 d4 d5)
  have z := ((((((r1.set 0 (.int .i64 a)).set 1 (.func (.func o) #[] #[])).set 2 (.int .i64 b)).set 3 (.int .i64 c)).set 4 (.slice sl l cc)).set 5 (.func (.func 89) #[] lb))
  have z0 := z.cell 0; have z1 := z.cell 1; have z2 := z.cell 2; have z3 := z.cell 3; have z4 := z.cell 4; have z5 := z.cell 5
  exact bodyPost_ret (v := .agg #[.int .i64 a, .func (.func o) #[] #[], .int .i64 b, .int .i64 c, .slice sl l cc, .func (.func 89) #[] lb]) (by simp [results, Tryz.results37, go_sem, z0, z1, z2, z3, z4, z5]) rfl ⟨_, rfl, hv.put6 r1 _ _ _ _ _ _, (((((((k0.trans hk1).set (by simp) _).set (by simp) _).set (by simp) _).set (by simp) _).set (by simp) _).set (by simp) _)⟩
set_option maxHeartbeats 8000000 in
set_option maxRecDepth 100000 in
theorem wf_17 (w : World) : Calls Tryz.prog 37 #[.int .i64 17] w fun e w' => ∃ v, e = .returned v ∧ WfV w' v 83 none ∧ Kept w w' := by
  have r0 := Cells.new w 71 zeroW
  have k0 : Kept w (w.alloc (.cells zeroW 71)) := Kept.alloc (Below.refl _ _) _
  have hC := xf_17 (w.alloc (.cells zeroW 71))
  go_enter Tryz.func37, Tryz.ntmps37
  go_wp2_with (go_at_call 72; refine hC.mono ?_; rintro e w1 ⟨v, rfl, hv, hk1⟩; obtain ⟨a, o, b, c, sl, l, cc, lb, rfl, hsl⟩ := id hv; have r1 := r0.kept hk1; have d0 := r1.cell 0; have d1 := r1.cell 1; have d2 := r1.cell 2; have d3 := r1.cell 3; have d4 := r1.cell 4; have d5 := r1.cell 5; have g0 := r1.frozen 0; have g1 := r1.frozen 1; have g2 := r1.frozen 2; have g3 := r1.frozen 3; have g4 := r1.frozen 4; have g5 := r1.frozen 5; have lr := r1.lt; simp at d0 d1 d2 d3 d4 d5)
  have z := ((((((r1.set 0 (.int .i64 a)).set 1 (.func (.func o) #[] #[])).set 2 (.int .i64 b)).set 3 (.int .i64 c)).set 4 (.slice sl l cc)).set 5 (.func (.func 83) #[] lb))
  have z0 := z.cell 0; have z1 := z.cell 1; have z2 := z.cell 2; have z3 := z.cell 3; have z4 := z.cell 4; have z5 := z.cell 5
  exact bodyPost_ret (v := .agg #[.int .i64 a, .func (.func o) #[] #[], .int .i64 b, .int .i64 c, .slice sl l cc, .func (.func 83) #[] lb]) (by simp [results, Tryz.results37, go_sem, z0, z1, z2, z3, z4, z5]) rfl ⟨_, rfl, hv.put6 r1 _ _ _ _ _ _, (((((((k0.trans hk1).set (by simp) _).set (by simp) _).set (by simp) _).set (by simp) _).set (by simp) _).set (by simp) _)⟩
set_option maxHeartbeats 8000000 in
set_option maxRecDepth 100000 in
theorem wf_18 (w : World) : Calls Tryz.prog 37 #[.int .i64 18] w fun e w' => ∃ v, e = .returned v ∧ WfV w' v 90 none ∧ Kept w w' := by
  have r0 := Cells.new w 71 zeroW
  have k0 : Kept w (w.alloc (.cells zeroW 71)) := Kept.alloc (Below.refl _ _) _
  have hC := xf_18 (w.alloc (.cells zeroW 71))
  go_enter Tryz.func37, Tryz.ntmps37
  go_wp2_with (go_at_call 72; refine hC.mono ?_; rintro e w1 ⟨v, rfl, hv, hk1⟩; obtain ⟨a, o, b, c, sl, l, cc, lb, rfl, hsl⟩ := id hv; have r1 := r0.kept hk1; have d0 := r1.cell 0; have d1 := r1.cell 1; have d2 := r1.cell 2; have d3 := r1.cell 3; have d4 := r1.cell 4; have d5 := r1.cell 5; have g0 := r1.frozen 0; have g1 := r1.frozen 1; have g2 := r1.frozen 2; have g3 := r1.frozen 3; have g4 := r1.frozen 4; have g5 := r1.frozen 5; have lr := r1.lt; simp at d0 d1 d2 d3 d4 d5)
  have z := ((((((r1.set 0 (.int .i64 a)).set 1 (.func (.func o) #[] #[])).set 2 (.int .i64 b)).set 3 (.int .i64 c)).set 4 (.slice sl l cc)).set 5 (.func (.func 90) #[] lb))
  have z0 := z.cell 0; have z1 := z.cell 1; have z2 := z.cell 2; have z3 := z.cell 3; have z4 := z.cell 4; have z5 := z.cell 5
  exact bodyPost_ret (v := .agg #[.int .i64 a, .func (.func o) #[] #[], .int .i64 b, .int .i64 c, .slice sl l cc, .func (.func 90) #[] lb]) (by simp [results, Tryz.results37, go_sem, z0, z1, z2, z3, z4, z5]) rfl ⟨_, rfl, hv.put6 r1 _ _ _ _ _ _, (((((((k0.trans hk1).set (by simp) _).set (by simp) _).set (by simp) _).set (by simp) _).set (by simp) _).set (by simp) _)⟩
set_option maxHeartbeats 8000000 in
set_option maxRecDepth 100000 in
theorem wf_19 (w : World) : Calls Tryz.prog 37 #[.int .i64 19] w fun e w' => ∃ v, e = .returned v ∧ WfV w' v 104 (some ⟨#[43]⟩) ∧ Kept w w' := by
  have r0 := Cells.new w 71 zeroW
  have k0 : Kept w (w.alloc (.cells zeroW 71)) := Kept.alloc (Below.refl _ _) _
  have hC := xf_19 (w.alloc (.cells zeroW 71))
  go_enter Tryz.func37, Tryz.ntmps37
  go_wp2_with (go_at_call 72; refine hC.mono ?_; rintro e w1 ⟨v, rfl, hv, hk1⟩; obtain ⟨a, o, b, c, sl, l, cc, lb, rfl, hsl⟩ := id hv; have r1 := r0.kept hk1; have d0 := r1.cell 0; have d1 := r1.cell 1; have d2 := r1.cell 2; have d3 := r1.cell 3; have d4 := r1.cell 4; have d5 := r1.cell 5; have g0 := r1.frozen 0; have g1 := r1.frozen 1; have g2 := r1.frozen 2; have g3 := r1.frozen 3; have g4 := r1.frozen 4; have g5 := r1.frozen 5; have lr := r1.lt; simp at d0 d1 d2 d3 d4 d5)
  have z := ((((((r1.set 0 (.int .i64 a)).set 1 (.func (.func o) #[] #[])).set 2 (.int .i64 b)).set 3 (.int .i64 c)).set 4 (.slice sl l cc)).set 5 (.func (.func 104) #[] lb))
  have z0 := z.cell 0; have z1 := z.cell 1; have z2 := z.cell 2; have z3 := z.cell 3; have z4 := z.cell 4; have z5 := z.cell 5
  exact bodyPost_ret (v := .agg #[.int .i64 a, .func (.func o) #[] #[], .int .i64 b, .int .i64 c, .slice sl l cc, .func (.func 104) #[] lb]) (by simp [results, Tryz.results37, go_sem, z0, z1, z2, z3, z4, z5]) rfl ⟨_, rfl, hv.put6 r1 _ _ _ _ _ _, (((((((k0.trans hk1).set (by simp) _).set (by simp) _).set (by simp) _).set (by simp) _).set (by simp) _).set (by simp) _)⟩
set_option maxHeartbeats 8000000 in
set_option maxRecDepth 100000 in
theorem wf_20 (w : World) : Calls Tryz.prog 37 #[.int .i64 20] w fun e w' => ∃ v, e = .returned v ∧ WfV w' v 104 (some ⟨#[45]⟩) ∧ Kept w w' := by
  have r0 := Cells.new w 71 zeroW
  have k0 : Kept w (w.alloc (.cells zeroW 71)) := Kept.alloc (Below.refl _ _) _
  have hC := xf_20 (w.alloc (.cells zeroW 71))
  go_enter Tryz.func37, Tryz.ntmps37
  go_wp2_with (go_at_call 72; refine hC.mono ?_; rintro e w1 ⟨v, rfl, hv, hk1⟩; obtain ⟨a, o, b, c, sl, l, cc, lb, rfl, hsl⟩ := id hv; have r1 := r0.kept hk1; have d0 := r1.cell 0; have d1 := r1.cell 1; have d2 := r1.cell 2; have d3 := r1.cell 3; have d4 := r1.cell 4; have d5 := r1.cell 5; have g0 := r1.frozen 0; have g1 := r1.frozen 1; have g2 := r1.frozen 2; have g3 := r1.frozen 3; have g4 := r1.frozen 4; have g5 := r1.frozen 5; have lr := r1.lt; simp at d0 d1 d2 d3 d4 d5)
  have z := ((((((r1.set 0 (.int .i64 a)).set 1 (.func (.func o) #[] #[])).set 2 (.int .i64 b)).set 3 (.int .i64 c)).set 4 (.slice sl l cc)).set 5 (.func (.func 104) #[] lb))
  have z0 := z.cell 0; have z1 := z.cell 1; have z2 := z.cell 2; have z3 := z.cell 3; have z4 := z.cell 4; have z5 := z.cell 5
  exact bodyPost_ret (v := .agg #[.int .i64 a, .func (.func o) #[] #[], .int .i64 b, .int .i64 c, .slice sl l cc, .func (.func 104) #[] lb]) (by simp [results, Tryz.results37, go_sem, z0, z1, z2, z3, z4, z5]) rfl ⟨_, rfl, hv.put6 r1 _ _ _ _ _ _, (((((((k0.trans hk1).set (by simp) _).set (by simp) _).set (by simp) _).set (by simp) _).set (by simp) _).set (by simp) _)⟩
set_option maxHeartbeats 8000000 in
set_option maxRecDepth 100000 in
theorem wf_21 (w : World) : Calls Tryz.prog 37 #[.int .i64 21] w fun e w' => ∃ v, e = .returned v ∧ WfV w' v 104 (some ⟨#[42]⟩) ∧ Kept w w' := by
  have r0 := Cells.new w 71 zeroW
  have k0 : Kept w (w.alloc (.cells zeroW 71)) := Kept.alloc (Below.refl _ _) _
  have hC := xf_21 (w.alloc (.cells zeroW 71))
  go_enter Tryz.func37, Tryz.ntmps37
  go_wp2_with (go_at_call 72; refine hC.mono ?_; rintro e w1 ⟨v, rfl, hv, hk1⟩; obtain ⟨a, o, b, c, sl, l, cc, lb, rfl, hsl⟩ := id hv; have r1 := r0.kept hk1; have d0 := r1.cell 0; have d1 := r1.cell 1; have d2 := r1.cell 2; have d3 := r1.cell 3; have d4 := r1.cell 4; have d5 := r1.cell 5; have g0 := r1.frozen 0; have g1 := r1.frozen 1; have g2 := r1.frozen 2; have g3 := r1.frozen 3; have g4 := r1.frozen 4; have g5 := r1.frozen 5; have lr := r1.lt; simp at d0 d1 d2 d3 d4 d5)
  have z := ((((((r1.set 0 (.int .i64 a)).set 1 (.func (.func o) #[] #[])).set 2 (.int .i64 b)).set 3 (.int .i64 c)).set 4 (.slice sl l cc)).set 5 (.func (.func 104) #[] lb))
  have z0 := z.cell 0; have z1 := z.cell 1; have z2 := z.cell 2; have z3 := z.cell 3; have z4 := z.cell 4; have z5 := z.cell 5
  exact bodyPost_ret (v := .agg #[.int .i64 a, .func (.func o) #[] #[], .int .i64 b, .int .i64 c, .slice sl l cc, .func (.func 104) #[] lb]) (by simp [results, Tryz.results37, go_sem, z0, z1, z2, z3, z4, z5]) rfl ⟨_, rfl, hv.put6 r1 _ _ _ _ _ _, (((((((k0.trans hk1).set (by simp) _).set (by simp) _).set (by simp) _).set (by simp) _).set (by simp) _).set (by simp) _)⟩
set_option maxHeartbeats 8000000 in
set_option maxRecDepth 100000 in
theorem wf_22 (w : World) : Calls Tryz.prog 37 #[.int .i64 22] w fun e w' => ∃ v, e = .returned v ∧ WfV w' v 104 (some ⟨#[60]⟩) ∧ Kept w w' := by
  have r0 := Cells.new w 71 zeroW
  have k0 : Kept w (w.alloc (.cells zeroW 71)) := Kept.alloc (Below.refl _ _) _
  have hC := xf_22 (w.alloc (.cells zeroW 71))
  go_enter Tryz.func37, Tryz.ntmps37
  go_wp2_with (go_at_call 72; refine hC.mono ?_; rintro e w1 ⟨v, rfl, hv, hk1⟩; obtain ⟨a, o, b, c, sl, l, cc, lb, rfl, hsl⟩ := id hv; have r1 := r0.kept hk1; have d0 := r1.cell 0; have d1 := r1.cell 1; have d2 := r1.cell 2; have d3 := r1.cell 3; have d4 := r1.cell 4; have d5 := r1.cell 5; have g0 := r1.frozen 0; have g1 := r1.frozen 1; have g2 := r1.frozen 2; have g3 := r1.frozen 3; have g4 := r1.frozen 4; have g5 := r1.frozen 5; have lr := r1.lt; simp at d0 d1 d2 d3 d4 d5)
  have z := ((((((r1.set 0 (.int .i64 a)).set 1 (.func (.func o) #[] #[])).set 2 (.int .i64 b)).set 3 (.int .i64 c)).set 4 (.slice sl l cc)).set 5 (.func (.func 104) #[] lb))
  have z0 := z.cell 0; have z1 := z.cell 1; have z2 := z.cell 2; have z3 := z.cell 3; have z4 := z.cell 4; have z5 := z.cell 5
  exact bodyPost_ret (v := .agg #[.int .i64 a, .func (.func o) #[] #[], .int .i64 b, .int .i64 c, .slice sl l cc, .func (.func 104) #[] lb]) (by simp [results, Tryz.results37, go_sem, z0, z1, z2, z3, z4, z5]) rfl ⟨_, rfl, hv.put6 r1 _ _ _ _ _ _, (((((((k0.trans hk1).set (by simp) _).set (by simp) _).set (by simp) _).set (by simp) _).set (by simp) _).set (by simp) _)⟩
set_option maxHeartbeats 8000000 in
set_option maxRecDepth 100000 in
theorem wf_23 (w : World) : Calls Tryz.prog 37 #[.int .i64 23] w fun e w' => ∃ v, e = .returned v ∧ WfV w' v 104 (some ⟨#[61, 61]⟩) ∧ Kept w w' := by
  have r0 := Cells.new w 71 zeroW
  have k0 : Kept w (w.alloc (.cells zeroW 71)) := Kept.alloc (Below.refl _ _) _
  have hC := xf_23 (w.alloc (.cells zeroW 71))
  go_enter Tryz.func37, Tryz.ntmps37
  go_wp2_with (go_at_call 72; refine hC.mono ?_; rintro e w1 ⟨v, rfl, hv, hk1⟩; obtain ⟨a, o, b, c, sl, l, cc, lb, rfl, hsl⟩ := id hv; have r1 := r0.kept hk1; have d0 := r1.cell 0; have d1 := r1.cell 1; have d2 := r1.cell 2; have d3 := r1.cell 3; have d4 := r1.cell 4; have d5 := r1.cell 5; have g0 := r1.frozen 0; have g1 := r1.frozen 1; have g2 := r1.frozen 2; have g3 := r1.frozen 3; have g4 := r1.frozen 4; have g5 := r1.frozen 5; have lr := r1.lt; simp at d0 d1 d2 d3 d4 d5)
  have z := ((((((r1.set 0 (.int .i64 a)).set 1 (.func (.func o) #[] #[])).set 2 (.int .i64 b)).set 3 (.int .i64 c)).set 4 (.slice sl l cc)).set 5 (.func (.func 104) #[] lb))
  have z0 := z.cell 0; have z1 := z.cell 1; have z2 := z.cell 2; have z3 := z.cell 3; have z4 := z.cell 4; have z5 := z.cell 5
  exact bodyPost_ret (v := .agg #[.int .i64 a, .func (.func o) #[] #[], .int .i64 b, .int .i64 c, .slice sl l cc, .func (.func 104) #[] lb]) (by simp [results, Tryz.results37, go_sem, z0, z1, z2, z3, z4, z5]) rfl ⟨_, rfl, hv.put6 r1 _ _ _ _ _ _, (((((((k0.trans hk1).set (by simp) _).set (by simp) _).set (by simp) _).set (by simp) _).set (by simp) _).set (by simp) _)⟩
set_option maxHeartbeats 8000000 in
set_option maxRecDepth 100000 in
theorem wf_24 (w : World) : Calls Tryz.prog 37 #[.int .i64 24] w fun e w' => ∃ v, e = .returned v ∧ WfV w' v 92 none ∧ Kept w w' := by
  have r0 := Cells.new w 71 zeroW
  have k0 : Kept w (w.alloc (.cells zeroW 71)) := Kept.alloc (Below.refl _ _) _
  have hC := xf_24 (w.alloc (.cells zeroW 71))
  go_enter Tryz.func37, Tryz.ntmps37
  go_wp2_with (go_at_call 72; refine hC.mono ?_; rintro e w1 ⟨v, rfl, hv, hk1⟩; obtain ⟨a, o, b, c, sl, l, cc, lb, rfl, hsl⟩ := id hv; have r1 := r0.kept hk1; have d0 := r1.cell 0; have d1 := r1.cell 1; have d2 := r1.cell 2; have d3 := r1.cell 3; have d4 := r1.cell 4; have d5 := r1.cell 5; have g0 := r1.frozen 0; have g1 := r1.frozen 1; have g2 := r1.frozen 2; have g3 := r1.frozen 3; have g4 := r1.frozen 4; have g5 := r1.frozen 5; have lr := r1.lt; simp at d0 d1 d2 d3 d4 d5)
  have z := ((((((r1.set 0 (.int .i64 a)).set 1 (.func (.func o) #[] #[])).set 2 (.int .i64 b)).set 3 (.int .i64 c)).set 4 (.slice sl l cc)).set 5 (.func (.func 92) #[] lb))
  have z0 := z.cell 0; have z1 := z.cell 1; have z2 := z.cell 2; have z3 := z.cell 3; have z4 := z.cell 4; have z5 := z.cell 5
  exact bodyPost_ret (v := .agg #[.int .i64 a, .func (.func o) #[] #[], .int .i64 b, .int .i64 c, .slice sl l cc, .func (.func 92) #[] lb]) (by simp [results, Tryz.results37, go_sem, z0, z1, z2, z3, z4, z5]) rfl ⟨_, rfl, hv.put6 r1 _ _ _ _ _ _, (((((((k0.trans hk1).set (by simp) _).set (by simp) _).set (by simp) _).set (by simp) _).set (by simp) _).set (by simp) _)⟩
set_option maxHeartbeats 8000000 in
set_option maxRecDepth 100000 in
theorem wf_25 (w : World) : Calls Tryz.prog 37 #[.int .i64 25] w fun e w' => ∃ v, e = .returned v ∧ WfV w' v 93 none ∧ Kept w w' := by
  have r0 := Cells.new w 71 zeroW
  have k0 : Kept w (w.alloc (.cells zeroW 71)) := Kept.alloc (Below.refl _ _) _
  have hC := xf_25 (w.alloc (.cells zeroW 71))
  go_enter Tryz.func37, Tryz.ntmps37
  go_wp2_with (go_at_call 72; refine hC.mono ?_; rintro e w1 ⟨v, rfl, hv, hk1⟩; obtain ⟨a, o, b, c, sl, l, cc, lb, rfl, hsl⟩ := id hv; have r1 := r0.kept hk1; have d0 := r1.cell 0; have d1 := r1.cell 1; have d2 := r1.cell 2; have d3 := r1.cell 3; have d4 := r1.cell 4; have d5 := r1.cell 5; have g0 := r1.frozen 0; have g1 := r1.frozen 1; have g2 := r1.frozen 2; have g3 := r1.frozen 3; have g4 := r1.frozen 4; have g5 := r1.frozen 5; have lr := r1.lt; simp at d0 d1 d2 d3 d4 d5)
  have z := ((((((r1.set 0 (.int .i64 a)).set 1 (.func (.func o) #[] #[])).set 2 (.int .i64 b)).set 3 (.int .i64 c)).set 4 (.slice sl l cc)).set 5 (.func (.func 93) #[] lb))
  have z0 := z.cell 0; have z1 := z.cell 1; have z2 := z.cell 2; have z3 := z.cell 3; have z4 := z.cell 4; have z5 := z.cell 5
  exact bodyPost_ret (v := .agg #[.int .i64 a, .func (.func o) #[] #[], .int .i64 b, .int .i64 c, .slice sl l cc, .func (.func 93) #[] lb]) (by simp [results, Tryz.results37, go_sem, z0, z1, z2, z3, z4, z5]) rfl ⟨_, rfl, hv.put6 r1 _ _ _ _ _ _, (((((((k0.trans hk1).set (by simp) _).set (by simp) _).set (by simp) _).set (by simp) _).set (by simp) _).set (by simp) _)⟩
set_option maxHeartbeats 8000000 in
set_option maxRecDepth 100000 in
theorem wf_27 (w : World) : Calls Tryz.prog 37 #[.int .i64 27] w fun e w' => ∃ v, e = .returned v ∧ WfV w' v 95 none ∧ Kept w w' := by
  have r0 := Cells.new w 71 zeroW
  have k0 : Kept w (w.alloc (.cells zeroW 71)) := Kept.alloc (Below.refl _ _) _
  have hC := xf_27 (w.alloc (.cells zeroW 71))
  go_enter Tryz.func37, Tryz.ntmps37
  go_wp2_with (go_at_call 72; refine hC.mono ?_; rintro e w1 ⟨v, rfl, hv, hk1⟩; obtain ⟨a, o, b, c, sl, l, cc, lb, rfl, hsl⟩ := id hv; have r1 := r0.kept hk1; have d0 := r1.cell 0; have d1 := r1.cell 1; have d2 := r1.cell 2; have d3 := r1.cell 3; have d4 := r1.cell 4; have d5 := r1.cell 5; have g0 := r1.frozen 0; have g1 := r1.frozen 1; have g2 := r1.frozen 2; have g3 := r1.frozen 3; have g4 := r1.frozen 4; have g5 := r1.frozen 5; have lr := r1.lt; simp at d0 d1 d2 d3 d4 d5)
  have z := ((((((r1.set 0 (.int .i64 a)).set 1 (.func (.func o) #[] #[])).set 2 (.int .i64 b)).set 3 (.int .i64 c)).set 4 (.slice sl l cc)).set 5 (.func (.func 95) #[] lb))
  have z0 := z.cell 0; have z1 := z.cell 1; have z2 := z.cell 2; have z3 := z.cell 3; have z4 := z.cell 4; have z5 := z.cell 5
  exact bodyPost_ret (v := .agg #[.int .i64 a, .func (.func o) #[] #[], .int .i64 b, .int .i64 c, .slice sl l cc, .func (.func 95) #[] lb]) (by simp [results, Tryz.results37, go_sem, z0, z1, z2, z3, z4, z5]) rfl ⟨_, rfl, hv.put6 r1 _ _ _ _ _ _, (((((((k0.trans hk1).set (by simp) _).set (by simp) _).set (by simp) _).set (by simp) _).set (by simp) _).set (by simp) _)⟩
def wrF (op : Int) : FuncId := if op = 1 then 59 else if op = 2 then 62 else if op = 3 then 63 else if op = 4 then 65 else if op = 5 then 66 else if op = 6 then 67 else if op = 7 then 68 else if op = 8 then 69 else if op = 9 then 70 else if op = 10 then 85 else if op = 11 then 87 else if op = 12 then 102 else if op = 13 then 102 else if op = 14 then 102 else if op = 15 then 102 else if op = 16 then 89 else if op = 17 then 83 else if op = 18 then 90 else if op = 19 then 104 else if op = 20 then 104 else if op = 21 then 104 else if op = 22 then 104 else if op = 23 then 104 else if op = 24 then 92 else if op = 25 then 93 else if op = 26 then 71 else 95
def capT (op : Int) : Option ByteArray := if op = 1 then none else if op = 2 then none else if op = 3 then none else if op = 4 then none else if op = 5 then none else if op = 6 then none else if op = 7 then none else if op = 8 then none else if op = 9 then none else if op = 10 then none else if op = 11 then none else if op = 12 then (some ⟨#[116, 114, 117, 101]⟩) else if op = 13 then (some ⟨#[102, 97, 108, 115, 101]⟩) else if op = 14 then (some ⟨#[110, 117, 108, 108]⟩) else if op = 15 then (some ⟨#[117, 110, 100, 101, 102, 105, 110, 101, 100]⟩) else if op = 16 then none else if op = 17 then none else if op = 18 then none else if op = 19 then (some ⟨#[43]⟩) else if op = 20 then (some ⟨#[45]⟩) else if op = 21 then (some ⟨#[42]⟩) else if op = 22 then (some ⟨#[60]⟩) else if op = 23 then (some ⟨#[61, 61]⟩) else if op = 24 then none else if op = 25 then none else if op = 26 then none else none
theorem writerF_ok {op : Int} (h1 : 1 ≤ op) (h2 : op ≤ 27) (w : World) :
    Calls Tryz.prog 37 #[.int .i64 op] w fun e w' => ∃ v, e = .returned v ∧ WfV w' v (wrF op) (capT op) ∧ Kept w w' := by
  rcases (show op = 1 ∨ op = 2 ∨ op = 3 ∨ op = 4 ∨ op = 5 ∨ op = 6 ∨ op = 7 ∨ op = 8 ∨ op = 9 ∨ op = 10 ∨ op = 11 ∨ op = 12 ∨ op = 13 ∨ op = 14 ∨ op = 15 ∨ op = 16 ∨ op = 17 ∨ op = 18 ∨ op = 19 ∨ op = 20 ∨ op = 21 ∨ op = 22 ∨ op = 23 ∨ op = 24 ∨ op = 25 ∨ op = 26 ∨ op = 27 by omega) with rfl | rfl | rfl | rfl | rfl | rfl | rfl | rfl | rfl | rfl | rfl | rfl | rfl | rfl | rfl | rfl | rfl | rfl | rfl | rfl | rfl | rfl | rfl | rfl | rfl | rfl | rfl
  · exact wf_1 w
  · exact wf_2 w
  · exact wf_3 w
  · exact wf_4 w
  · exact wf_5 w
  · exact wf_6 w
  · exact wf_7 w
  · exact wf_8 w
  · exact wf_9 w
  · exact wf_10 w
  · exact wf_11 w
  · exact wf_12 w
  · exact wf_13 w
  · exact wf_14 w
  · exact wf_15 w
  · exact wf_16 w
  · exact wf_17 w
  · exact wf_18 w
  · exact wf_19 w
  · exact wf_20 w
  · exact wf_21 w
  · exact wf_22 w
  · exact wf_23 w
  · exact wf_24 w
  · exact wf_25 w
  · exact wf_26 w
  · exact wf_27 w
end Go.Proofs.YtejpjbfmjmfnmaaGreatDoor
