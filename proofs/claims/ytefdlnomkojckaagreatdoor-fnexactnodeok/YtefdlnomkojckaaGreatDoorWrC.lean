/-
  The contracts of chapter 13's writers of exprs, op by op (genWr.py).
-/
import Derived.Test.YtefdlnomkojckaaGreatDoorWrB
namespace Go.Proofs.YtefdlnomkojckaaGreatDoor
open Go.RowKit
set_option linter.unusedSimpArgs false

/-- The value is stored where a zero writer lies. -/
theorem WrOk.put6 {W : World} {R : Nat} {ty : TypeId} {v : Value} {stn : Nat} {own : FuncId} {least most : Int} {L : List Int} (h : WrOk W v stn own least most L) (hR : Cells W R ty zeroW) (hL : L = [] ∨ ∃ x r, L = x :: r ∧ x ≠ 0) (u0 u1 u2 u3 u4 u5 : Value) :
    WrOk ((((((W.setCell ⟨R, 0, none⟩ u0).setCell ⟨R, 1, none⟩ u1).setCell ⟨R, 2, none⟩ u2).setCell ⟨R, 3, none⟩ u3).setCell ⟨R, 4, none⟩ u4).setCell ⟨R, 5, none⟩ u5) v stn own least most L := by
  obtain ⟨sl, c, f, x, y, e, h | ⟨g, e2, h⟩⟩ := h
  · exact ⟨sl, c, f, x, y, e, .inl h⟩
  · rcases hL with hL | ⟨a, r, hL, ha⟩
    · exact ⟨sl, c, f, x, y, e, .inl hL⟩
    · have hne : R ≠ g := by
        rintro rfl
        have h0 := h 0 a (by rw [hL]; rfl)
        rw [hR.cell 0] at h0
        simp [zeroW] at h0
        exact ha h0.symm
      have ho : ∀ (W : World) (i j : Nat) (u : Value), (W.setCell ⟨R, i, none⟩ u).cell? ⟨g, j, none⟩ = W.cell? ⟨g, j, none⟩ := fun W i j u => World.cell?_setCell_other _ _ _ _ (by intro e; have := congrArg Addr.block e; simp at this; exact hne this)
      exact ⟨sl, c, f, x, y, e, .inr ⟨g, e2, fun j z hz => by rw [ho, ho, ho, ho, ho, ho]; exact h j z hz⟩⟩
set_option maxHeartbeats 8000000 in
set_option maxRecDepth 100000 in
theorem wordWriter_ok (w : World) (t : ByteArray) : Calls Tryz.prog 70 #[.string t] w fun e w' => ∃ v, e = .returned v ∧ WrOk w' v 3 42 0 0 [] ∧ Kept w w' := by
  have r0 := Cells.new (w.alloc (.cells #[.string t] 9)) 61 zeroW
  simp only [World.size_alloc] at r0
  have k0 : Kept w ((w.alloc (.cells #[.string t] 9)).alloc (.cells zeroW 61)) := (Kept.alloc (Below.refl _ _) _).alloc _
  have hC := kidsAs_ok ((w.alloc (.cells #[.string t] 9)).alloc (.cells zeroW 61)) none 0 0
  go_enter Tryz.func70, Tryz.ntmps70
  go_wp2_with (go_at_call 46; refine hC.mono ?_; rintro e w1 ⟨rfl, hk1⟩; have r1 := r0.kept hk1; have d0 := r1.cell 0; have d1 := r1.cell 1; have d2 := r1.cell 2; have d3 := r1.cell 3; have d4 := r1.cell 4; have d5 := r1.cell 5; have g0 := r1.frozen 0; have g1 := r1.frozen 1; have g2 := r1.frozen 2; have g3 := r1.frozen 3; have g4 := r1.frozen 4; have g5 := r1.frozen 5; have lr := r1.lt; simp at d0 d1 d2 d3 d4 d5)
  have z := ((((((r1.set 0 (.int .i64 3)).set 1 (.func (.func 42) #[] #[])).set 2 (.int .i64 0)).set 3 (.int .i64 0)).set 4 (.slice none 0 0)).set 5 (.func (.func 89) #[] #[.pointer (some ⟨w.heap.size, 0, none⟩)]))
  have z0 := z.cell 0; have z1 := z.cell 1; have z2 := z.cell 2; have z3 := z.cell 3; have z4 := z.cell 4; have z5 := z.cell 5
  exact bodyPost_ret (v := .agg #[.int .i64 3, .func (.func 42) #[] #[], .int .i64 0, .int .i64 0, .slice none 0 0, .func (.func 89) #[] #[.pointer (some ⟨w.heap.size, 0, none⟩)]]) (by simp [results, Tryz.results70, go_sem, z0, z1, z2, z3, z4, z5]) rfl ⟨_, rfl, ⟨_, _, _, _, _, rfl, .inl rfl⟩, (((((((k0.trans hk1).set (by simp) _).set (by simp) _).set (by simp) _).set (by simp) _).set (by simp) _).set (by simp) _)⟩
set_option maxHeartbeats 8000000 in
set_option maxRecDepth 100000 in
theorem signWriter_ok (w : World) (t : ByteArray) : Calls Tryz.prog 73 #[.string t] w fun e w' => ∃ v, e = .returned v ∧ WrOk w' v 3 42 2 2 [3, 3] ∧ Kept w w' := by
  have r0 := Cells.new (w.alloc (.cells #[.string t] 9)) 61 zeroW
  simp only [World.size_alloc] at r0
  have k0 : Kept w ((w.alloc (.cells #[.string t] 9)).alloc (.cells zeroW 61)) := (Kept.alloc (Below.refl _ _) _).alloc _
  have s0 := Cells.new ((w.alloc (.cells #[.string t] 9)).alloc (.cells zeroW 61)) 42 #[.int .i64 3, .int .i64 3]
  simp only [World.size_alloc] at s0
  have r0 := r0.alloc (.cells #[.int .i64 3, .int .i64 3] 42)
  have k0 := k0.alloc (.cells #[.int .i64 3, .int .i64 3] 42)
  have hC := kidsAs_ok (((w.alloc (.cells #[.string t] 9)).alloc (.cells zeroW 61)).alloc (.cells #[.int .i64 3, .int .i64 3] 42)) (some ⟨w.heap.size + 1 + 1, 0, none⟩) 2 2
  go_enter Tryz.func73, Tryz.ntmps73
  go_wp2_with (go_at_call 46; refine hC.mono ?_; rintro e w1 ⟨rfl, hk1⟩; have s1 := s0.kept hk1; have r1 := r0.kept hk1; have d0 := r1.cell 0; have d1 := r1.cell 1; have d2 := r1.cell 2; have d3 := r1.cell 3; have d4 := r1.cell 4; have d5 := r1.cell 5; have g0 := r1.frozen 0; have g1 := r1.frozen 1; have g2 := r1.frozen 2; have g3 := r1.frozen 3; have g4 := r1.frozen 4; have g5 := r1.frozen 5; have lr := r1.lt; simp at d0 d1 d2 d3 d4 d5)
  have z := ((((((r1.set 0 (.int .i64 3)).set 1 (.func (.func 42) #[] #[])).set 2 (.int .i64 2)).set 3 (.int .i64 2)).set 4 (.slice (some ⟨w.heap.size + 1 + 1, 0, none⟩) 2 2)).set 5 (.func (.func 91) #[] #[.pointer (some ⟨w.heap.size, 0, none⟩)]))
  have z0 := z.cell 0; have z1 := z.cell 1; have z2 := z.cell 2; have z3 := z.cell 3; have z4 := z.cell 4; have z5 := z.cell 5
  exact bodyPost_ret (v := .agg #[.int .i64 3, .func (.func 42) #[] #[], .int .i64 2, .int .i64 2, .slice (some ⟨w.heap.size + 1 + 1, 0, none⟩) 2 2, .func (.func 91) #[] #[.pointer (some ⟨w.heap.size, 0, none⟩)]]) (by simp [results, Tryz.results73, go_sem, z0, z1, z2, z3, z4, z5]) rfl ⟨_, rfl, ⟨_, _, _, _, _, rfl, .inr ⟨_, rfl, fun j x hx => (((((((s1.other (p := ⟨w.heap.size + 1, 0, none⟩) (by simp) _).other (p := ⟨w.heap.size + 1, 1, none⟩) (by simp) _).other (p := ⟨w.heap.size + 1, 2, none⟩) (by simp) _).other (p := ⟨w.heap.size + 1, 3, none⟩) (by simp) _).other (p := ⟨w.heap.size + 1, 4, none⟩) (by simp) _).other (p := ⟨w.heap.size + 1, 5, none⟩) (by simp) _).cell j).trans (by match j, hx with | 0, h => simp at h; subst h; rfl | 1, h => simp at h; subst h; rfl | n + 2, h => simp at h)⟩⟩, (((((((k0.trans hk1).set (by simp) _).set (by simp) _).set (by simp) _).set (by simp) _).set (by simp) _).set (by simp) _)⟩
set_option maxHeartbeats 8000000 in
set_option maxRecDepth 100000 in
theorem ex_10 (w : World) : Calls Tryz.prog 57 #[.int .i64 10] w fun e w' => ∃ v, e = .returned v ∧ WrOk w' v 3 66 0 0 [] ∧ Kept w w' := by
  have r0 := Cells.new w 61 zeroW
  have k0 : Kept w (w.alloc (.cells zeroW 61)) := Kept.alloc (Below.refl _ _) _
  have hC := kidsAs_ok (w.alloc (.cells zeroW 61)) none 0 0
  go_enter Tryz.func57, Tryz.ntmps57
  go_wp2_with (go_at_call 46; refine hC.mono ?_; rintro e w1 ⟨rfl, hk1⟩; have r1 := r0.kept hk1; have d0 := r1.cell 0; have d1 := r1.cell 1; have d2 := r1.cell 2; have d3 := r1.cell 3; have d4 := r1.cell 4; have d5 := r1.cell 5; have g0 := r1.frozen 0; have g1 := r1.frozen 1; have g2 := r1.frozen 2; have g3 := r1.frozen 3; have g4 := r1.frozen 4; have g5 := r1.frozen 5; have lr := r1.lt; simp at d0 d1 d2 d3 d4 d5)
  have z := ((((((r1.set 0 (.int .i64 3)).set 1 (.func (.func 66) #[] #[])).set 2 (.int .i64 0)).set 3 (.int .i64 0)).set 4 (.slice none 0 0)).set 5 (.func (.func 67) #[] #[]))
  have z0 := z.cell 0; have z1 := z.cell 1; have z2 := z.cell 2; have z3 := z.cell 3; have z4 := z.cell 4; have z5 := z.cell 5
  exact bodyPost_ret (v := .agg #[.int .i64 3, .func (.func 66) #[] #[], .int .i64 0, .int .i64 0, .slice none 0 0, .func (.func 67) #[] #[]]) (by simp [results, Tryz.results57, go_sem, z0, z1, z2, z3, z4, z5]) rfl ⟨_, rfl, ⟨_, _, _, _, _, rfl, .inl rfl⟩, (((((((k0.trans hk1).set (by simp) _).set (by simp) _).set (by simp) _).set (by simp) _).set (by simp) _).set (by simp) _)⟩
set_option maxHeartbeats 8000000 in
set_option maxRecDepth 100000 in
theorem ex_11 (w : World) : Calls Tryz.prog 57 #[.int .i64 11] w fun e w' => ∃ v, e = .returned v ∧ WrOk w' v 3 68 0 0 [] ∧ Kept w w' := by
  have r0 := Cells.new w 61 zeroW
  have k0 : Kept w (w.alloc (.cells zeroW 61)) := Kept.alloc (Below.refl _ _) _
  have hC := kidsAs_ok (w.alloc (.cells zeroW 61)) none 0 0
  go_enter Tryz.func57, Tryz.ntmps57
  go_wp2_with (go_at_call 46; refine hC.mono ?_; rintro e w1 ⟨rfl, hk1⟩; have r1 := r0.kept hk1; have d0 := r1.cell 0; have d1 := r1.cell 1; have d2 := r1.cell 2; have d3 := r1.cell 3; have d4 := r1.cell 4; have d5 := r1.cell 5; have g0 := r1.frozen 0; have g1 := r1.frozen 1; have g2 := r1.frozen 2; have g3 := r1.frozen 3; have g4 := r1.frozen 4; have g5 := r1.frozen 5; have lr := r1.lt; simp at d0 d1 d2 d3 d4 d5)
  have z := ((((((r1.set 0 (.int .i64 3)).set 1 (.func (.func 68) #[] #[])).set 2 (.int .i64 0)).set 3 (.int .i64 0)).set 4 (.slice none 0 0)).set 5 (.func (.func 69) #[] #[]))
  have z0 := z.cell 0; have z1 := z.cell 1; have z2 := z.cell 2; have z3 := z.cell 3; have z4 := z.cell 4; have z5 := z.cell 5
  exact bodyPost_ret (v := .agg #[.int .i64 3, .func (.func 68) #[] #[], .int .i64 0, .int .i64 0, .slice none 0 0, .func (.func 69) #[] #[]]) (by simp [results, Tryz.results57, go_sem, z0, z1, z2, z3, z4, z5]) rfl ⟨_, rfl, ⟨_, _, _, _, _, rfl, .inl rfl⟩, (((((((k0.trans hk1).set (by simp) _).set (by simp) _).set (by simp) _).set (by simp) _).set (by simp) _).set (by simp) _)⟩
set_option maxHeartbeats 8000000 in
set_option maxRecDepth 100000 in
theorem ex_16 (w : World) : Calls Tryz.prog 57 #[.int .i64 16] w fun e w' => ∃ v, e = .returned v ∧ WrOk w' v 3 45 0 0 [] ∧ Kept w w' := by
  have r0 := Cells.new w 61 zeroW
  have k0 : Kept w (w.alloc (.cells zeroW 61)) := Kept.alloc (Below.refl _ _) _
  have hC := kidsAs_ok (w.alloc (.cells zeroW 61)) none 0 0
  go_enter Tryz.func57, Tryz.ntmps57
  go_wp2_with (go_at_call 46; refine hC.mono ?_; rintro e w1 ⟨rfl, hk1⟩; have r1 := r0.kept hk1; have d0 := r1.cell 0; have d1 := r1.cell 1; have d2 := r1.cell 2; have d3 := r1.cell 3; have d4 := r1.cell 4; have d5 := r1.cell 5; have g0 := r1.frozen 0; have g1 := r1.frozen 1; have g2 := r1.frozen 2; have g3 := r1.frozen 3; have g4 := r1.frozen 4; have g5 := r1.frozen 5; have lr := r1.lt; simp at d0 d1 d2 d3 d4 d5)
  have z := ((((((r1.set 0 (.int .i64 3)).set 1 (.func (.func 45) #[] #[])).set 2 (.int .i64 0)).set 3 (.int .i64 0)).set 4 (.slice none 0 0)).set 5 (.func (.func 71) #[] #[]))
  have z0 := z.cell 0; have z1 := z.cell 1; have z2 := z.cell 2; have z3 := z.cell 3; have z4 := z.cell 4; have z5 := z.cell 5
  exact bodyPost_ret (v := .agg #[.int .i64 3, .func (.func 45) #[] #[], .int .i64 0, .int .i64 0, .slice none 0 0, .func (.func 71) #[] #[]]) (by simp [results, Tryz.results57, go_sem, z0, z1, z2, z3, z4, z5]) rfl ⟨_, rfl, ⟨_, _, _, _, _, rfl, .inl rfl⟩, (((((((k0.trans hk1).set (by simp) _).set (by simp) _).set (by simp) _).set (by simp) _).set (by simp) _).set (by simp) _)⟩
set_option maxHeartbeats 8000000 in
set_option maxRecDepth 100000 in
theorem ex_17 (w : World) : Calls Tryz.prog 57 #[.int .i64 17] w fun e w' => ∃ v, e = .returned v ∧ WrOk w' v 3 49 1 1 [3] ∧ Kept w w' := by
  have r0 := Cells.new w 61 zeroW
  have k0 : Kept w (w.alloc (.cells zeroW 61)) := Kept.alloc (Below.refl _ _) _
  have s0 := Cells.new (w.alloc (.cells zeroW 61)) 42 #[.int .i64 3]
  simp only [World.size_alloc] at s0
  have r0 := r0.alloc (.cells #[.int .i64 3] 42)
  have k0 : Kept w ((w.alloc (.cells zeroW 61)).alloc (.cells #[.int .i64 3] 42)) := k0.alloc _
  have hC := kidsAs_ok ((w.alloc (.cells zeroW 61)).alloc (.cells #[.int .i64 3] 42)) (some ⟨w.heap.size + 1, 0, none⟩) 1 1
  go_enter Tryz.func57, Tryz.ntmps57
  go_wp2_with (go_at_call 46; refine hC.mono ?_; rintro e w1 ⟨rfl, hk1⟩; have s1 := s0.kept hk1; have r1 := r0.kept hk1; have d0 := r1.cell 0; have d1 := r1.cell 1; have d2 := r1.cell 2; have d3 := r1.cell 3; have d4 := r1.cell 4; have d5 := r1.cell 5; have g0 := r1.frozen 0; have g1 := r1.frozen 1; have g2 := r1.frozen 2; have g3 := r1.frozen 3; have g4 := r1.frozen 4; have g5 := r1.frozen 5; have lr := r1.lt; simp at d0 d1 d2 d3 d4 d5)
  have z := ((((((r1.set 0 (.int .i64 3)).set 1 (.func (.func 49) #[] #[])).set 2 (.int .i64 1)).set 3 (.int .i64 1)).set 4 (.slice (some ⟨w.heap.size + 1, 0, none⟩) 1 1)).set 5 (.func (.func 65) #[] #[]))
  have z0 := z.cell 0; have z1 := z.cell 1; have z2 := z.cell 2; have z3 := z.cell 3; have z4 := z.cell 4; have z5 := z.cell 5
  exact bodyPost_ret (v := .agg #[.int .i64 3, .func (.func 49) #[] #[], .int .i64 1, .int .i64 1, .slice (some ⟨w.heap.size + 1, 0, none⟩) 1 1, .func (.func 65) #[] #[]]) (by simp [results, Tryz.results57, go_sem, z0, z1, z2, z3, z4, z5]) rfl ⟨_, rfl, ⟨_, _, _, _, _, rfl, .inr ⟨_, rfl, fun j x hx => (((((((s1.other (p := ⟨w.heap.size, 0, none⟩) (by simp) _).other (p := ⟨w.heap.size, 1, none⟩) (by simp) _).other (p := ⟨w.heap.size, 2, none⟩) (by simp) _).other (p := ⟨w.heap.size, 3, none⟩) (by simp) _).other (p := ⟨w.heap.size, 4, none⟩) (by simp) _).other (p := ⟨w.heap.size, 5, none⟩) (by simp) _).cell j).trans (by match j, hx with | 0, h => simp at h; subst h; rfl | n + 1, h => simp at h)⟩⟩, (((((((k0.trans hk1).set (by simp) _).set (by simp) _).set (by simp) _).set (by simp) _).set (by simp) _).set (by simp) _)⟩
set_option maxHeartbeats 8000000 in
set_option maxRecDepth 100000 in
theorem ex_24 (w : World) : Calls Tryz.prog 57 #[.int .i64 24] w fun e w' => ∃ v, e = .returned v ∧ WrOk w' v 3 42 1 1 [3] ∧ Kept w w' := by
  have r0 := Cells.new w 61 zeroW
  have k0 : Kept w (w.alloc (.cells zeroW 61)) := Kept.alloc (Below.refl _ _) _
  have s0 := Cells.new (w.alloc (.cells zeroW 61)) 42 #[.int .i64 3]
  simp only [World.size_alloc] at s0
  have r0 := r0.alloc (.cells #[.int .i64 3] 42)
  have k0 : Kept w ((w.alloc (.cells zeroW 61)).alloc (.cells #[.int .i64 3] 42)) := k0.alloc _
  have hC := kidsAs_ok ((w.alloc (.cells zeroW 61)).alloc (.cells #[.int .i64 3] 42)) (some ⟨w.heap.size + 1, 0, none⟩) 1 1
  go_enter Tryz.func57, Tryz.ntmps57
  go_wp2_with (go_at_call 46; refine hC.mono ?_; rintro e w1 ⟨rfl, hk1⟩; have s1 := s0.kept hk1; have r1 := r0.kept hk1; have d0 := r1.cell 0; have d1 := r1.cell 1; have d2 := r1.cell 2; have d3 := r1.cell 3; have d4 := r1.cell 4; have d5 := r1.cell 5; have g0 := r1.frozen 0; have g1 := r1.frozen 1; have g2 := r1.frozen 2; have g3 := r1.frozen 3; have g4 := r1.frozen 4; have g5 := r1.frozen 5; have lr := r1.lt; simp at d0 d1 d2 d3 d4 d5)
  have z := ((((((r1.set 0 (.int .i64 3)).set 1 (.func (.func 42) #[] #[])).set 2 (.int .i64 1)).set 3 (.int .i64 1)).set 4 (.slice (some ⟨w.heap.size + 1, 0, none⟩) 1 1)).set 5 (.func (.func 74) #[] #[]))
  have z0 := z.cell 0; have z1 := z.cell 1; have z2 := z.cell 2; have z3 := z.cell 3; have z4 := z.cell 4; have z5 := z.cell 5
  exact bodyPost_ret (v := .agg #[.int .i64 3, .func (.func 42) #[] #[], .int .i64 1, .int .i64 1, .slice (some ⟨w.heap.size + 1, 0, none⟩) 1 1, .func (.func 74) #[] #[]]) (by simp [results, Tryz.results57, go_sem, z0, z1, z2, z3, z4, z5]) rfl ⟨_, rfl, ⟨_, _, _, _, _, rfl, .inr ⟨_, rfl, fun j x hx => (((((((s1.other (p := ⟨w.heap.size, 0, none⟩) (by simp) _).other (p := ⟨w.heap.size, 1, none⟩) (by simp) _).other (p := ⟨w.heap.size, 2, none⟩) (by simp) _).other (p := ⟨w.heap.size, 3, none⟩) (by simp) _).other (p := ⟨w.heap.size, 4, none⟩) (by simp) _).other (p := ⟨w.heap.size, 5, none⟩) (by simp) _).cell j).trans (by match j, hx with | 0, h => simp at h; subst h; rfl | n + 1, h => simp at h)⟩⟩, (((((((k0.trans hk1).set (by simp) _).set (by simp) _).set (by simp) _).set (by simp) _).set (by simp) _).set (by simp) _)⟩
set_option maxHeartbeats 8000000 in
set_option maxRecDepth 100000 in
theorem ex_27 (w : World) : Calls Tryz.prog 57 #[.int .i64 27] w fun e w' => ∃ v, e = .returned v ∧ WrOk w' v 3 76 1 1 [1] ∧ Kept w w' := by
  have r0 := Cells.new w 61 zeroW
  have k0 : Kept w (w.alloc (.cells zeroW 61)) := Kept.alloc (Below.refl _ _) _
  have s0 := Cells.new (w.alloc (.cells zeroW 61)) 42 #[.int .i64 1]
  simp only [World.size_alloc] at s0
  have r0 := r0.alloc (.cells #[.int .i64 1] 42)
  have k0 : Kept w ((w.alloc (.cells zeroW 61)).alloc (.cells #[.int .i64 1] 42)) := k0.alloc _
  have hC := kidsAs_ok ((w.alloc (.cells zeroW 61)).alloc (.cells #[.int .i64 1] 42)) (some ⟨w.heap.size + 1, 0, none⟩) 1 1
  go_enter Tryz.func57, Tryz.ntmps57
  go_wp2_with (go_at_call 46; refine hC.mono ?_; rintro e w1 ⟨rfl, hk1⟩; have s1 := s0.kept hk1; have r1 := r0.kept hk1; have d0 := r1.cell 0; have d1 := r1.cell 1; have d2 := r1.cell 2; have d3 := r1.cell 3; have d4 := r1.cell 4; have d5 := r1.cell 5; have g0 := r1.frozen 0; have g1 := r1.frozen 1; have g2 := r1.frozen 2; have g3 := r1.frozen 3; have g4 := r1.frozen 4; have g5 := r1.frozen 5; have lr := r1.lt; simp at d0 d1 d2 d3 d4 d5)
  have z := ((((((r1.set 0 (.int .i64 3)).set 1 (.func (.func 76) #[] #[])).set 2 (.int .i64 1)).set 3 (.int .i64 1)).set 4 (.slice (some ⟨w.heap.size + 1, 0, none⟩) 1 1)).set 5 (.func (.func 77) #[] #[]))
  have z0 := z.cell 0; have z1 := z.cell 1; have z2 := z.cell 2; have z3 := z.cell 3; have z4 := z.cell 4; have z5 := z.cell 5
  exact bodyPost_ret (v := .agg #[.int .i64 3, .func (.func 76) #[] #[], .int .i64 1, .int .i64 1, .slice (some ⟨w.heap.size + 1, 0, none⟩) 1 1, .func (.func 77) #[] #[]]) (by simp [results, Tryz.results57, go_sem, z0, z1, z2, z3, z4, z5]) rfl ⟨_, rfl, ⟨_, _, _, _, _, rfl, .inr ⟨_, rfl, fun j x hx => (((((((s1.other (p := ⟨w.heap.size, 0, none⟩) (by simp) _).other (p := ⟨w.heap.size, 1, none⟩) (by simp) _).other (p := ⟨w.heap.size, 2, none⟩) (by simp) _).other (p := ⟨w.heap.size, 3, none⟩) (by simp) _).other (p := ⟨w.heap.size, 4, none⟩) (by simp) _).other (p := ⟨w.heap.size, 5, none⟩) (by simp) _).cell j).trans (by match j, hx with | 0, h => simp at h; subst h; rfl | n + 1, h => simp at h)⟩⟩, (((((((k0.trans hk1).set (by simp) _).set (by simp) _).set (by simp) _).set (by simp) _).set (by simp) _).set (by simp) _)⟩
set_option maxHeartbeats 8000000 in
set_option maxRecDepth 100000 in
theorem ex_18 (w : World) : Calls Tryz.prog 57 #[.int .i64 18] w fun e w' => ∃ v, e = .returned v ∧ WrOk w' v 3 42 1 200 [3] ∧ Kept w w' := by
  have r0 := Cells.new w 61 zeroW
  have k0 : Kept w (w.alloc (.cells zeroW 61)) := Kept.alloc (Below.refl _ _) _
  have hC := atLeast_ok (w.alloc (.cells zeroW 61)) 1 3
  go_enter Tryz.func57, Tryz.ntmps57
  go_wp2_with (go_at_call 43; refine hC.mono ?_; rintro e w1 ⟨g, rfl, hg, hk1⟩; have r1 := r0.kept hk1; have d0 := r1.cell 0; have d1 := r1.cell 1; have d2 := r1.cell 2; have d3 := r1.cell 3; have d4 := r1.cell 4; have d5 := r1.cell 5; have g0 := r1.frozen 0; have g1 := r1.frozen 1; have g2 := r1.frozen 2; have g3 := r1.frozen 3; have g4 := r1.frozen 4; have g5 := r1.frozen 5; have lr := r1.lt; simp at d0 d1 d2 d3 d4 d5)
  have hgne : g ≠ w.heap.size := by
    rintro rfl
    rw [d0] at hg
    simp at hg
  have z := ((((((r1.set 0 (.int .i64 3)).set 1 (.func (.func 42) #[] #[])).set 2 (.int .i64 1)).set 3 (.int .i64 200)).set 4 (.slice (some ⟨g, 0, none⟩) 1 1)).set 5 (.func (.func 72) #[] #[]))
  have z0 := z.cell 0; have z1 := z.cell 1; have z2 := z.cell 2; have z3 := z.cell 3; have z4 := z.cell 4; have z5 := z.cell 5
  exact bodyPost_ret (v := .agg #[.int .i64 3, .func (.func 42) #[] #[], .int .i64 1, .int .i64 200, .slice (some ⟨g, 0, none⟩) 1 1, .func (.func 72) #[] #[]]) (by simp [results, Tryz.results57, go_sem, z0, z1, z2, z3, z4, z5]) rfl ⟨_, rfl, ⟨_, _, _, _, _, rfl, .inr ⟨_, rfl, fun j x hx => by match j, hx with | 0, h => simp at h; subst h; exact (World.cell?_setCell_other _ _ _ _ (by intro e; have := congrArg Addr.block e; simp at this; exact hgne this.symm)).trans ((World.cell?_setCell_other _ _ _ _ (by intro e; have := congrArg Addr.block e; simp at this; exact hgne this.symm)).trans ((World.cell?_setCell_other _ _ _ _ (by intro e; have := congrArg Addr.block e; simp at this; exact hgne this.symm)).trans ((World.cell?_setCell_other _ _ _ _ (by intro e; have := congrArg Addr.block e; simp at this; exact hgne this.symm)).trans ((World.cell?_setCell_other _ _ _ _ (by intro e; have := congrArg Addr.block e; simp at this; exact hgne this.symm)).trans ((World.cell?_setCell_other _ _ _ _ (by intro e; have := congrArg Addr.block e; simp at this; exact hgne this.symm)).trans (hg)))))) | n + 1, h => simp at h⟩⟩, (((((((k0.trans hk1).set (by simp) _).set (by simp) _).set (by simp) _).set (by simp) _).set (by simp) _).set (by simp) _)⟩
set_option maxHeartbeats 8000000 in
set_option maxRecDepth 100000 in
theorem ex_25 (w : World) : Calls Tryz.prog 57 #[.int .i64 25] w fun e w' => ∃ v, e = .returned v ∧ WrOk w' v 3 42 0 200 [4] ∧ Kept w w' := by
  have r0 := Cells.new w 61 zeroW
  have k0 : Kept w (w.alloc (.cells zeroW 61)) := Kept.alloc (Below.refl _ _) _
  have hC := atLeast_ok (w.alloc (.cells zeroW 61)) 0 4
  go_enter Tryz.func57, Tryz.ntmps57
  go_wp2_with (go_at_call 43; refine hC.mono ?_; rintro e w1 ⟨g, rfl, hg, hk1⟩; have r1 := r0.kept hk1; have d0 := r1.cell 0; have d1 := r1.cell 1; have d2 := r1.cell 2; have d3 := r1.cell 3; have d4 := r1.cell 4; have d5 := r1.cell 5; have g0 := r1.frozen 0; have g1 := r1.frozen 1; have g2 := r1.frozen 2; have g3 := r1.frozen 3; have g4 := r1.frozen 4; have g5 := r1.frozen 5; have lr := r1.lt; simp at d0 d1 d2 d3 d4 d5)
  have hgne : g ≠ w.heap.size := by
    rintro rfl
    rw [d0] at hg
    simp at hg
  have z := ((((((r1.set 0 (.int .i64 3)).set 1 (.func (.func 42) #[] #[])).set 2 (.int .i64 0)).set 3 (.int .i64 200)).set 4 (.slice (some ⟨g, 0, none⟩) 1 1)).set 5 (.func (.func 75) #[] #[]))
  have z0 := z.cell 0; have z1 := z.cell 1; have z2 := z.cell 2; have z3 := z.cell 3; have z4 := z.cell 4; have z5 := z.cell 5
  exact bodyPost_ret (v := .agg #[.int .i64 3, .func (.func 42) #[] #[], .int .i64 0, .int .i64 200, .slice (some ⟨g, 0, none⟩) 1 1, .func (.func 75) #[] #[]]) (by simp [results, Tryz.results57, go_sem, z0, z1, z2, z3, z4, z5]) rfl ⟨_, rfl, ⟨_, _, _, _, _, rfl, .inr ⟨_, rfl, fun j x hx => by match j, hx with | 0, h => simp at h; subst h; exact (World.cell?_setCell_other _ _ _ _ (by intro e; have := congrArg Addr.block e; simp at this; exact hgne this.symm)).trans ((World.cell?_setCell_other _ _ _ _ (by intro e; have := congrArg Addr.block e; simp at this; exact hgne this.symm)).trans ((World.cell?_setCell_other _ _ _ _ (by intro e; have := congrArg Addr.block e; simp at this; exact hgne this.symm)).trans ((World.cell?_setCell_other _ _ _ _ (by intro e; have := congrArg Addr.block e; simp at this; exact hgne this.symm)).trans ((World.cell?_setCell_other _ _ _ _ (by intro e; have := congrArg Addr.block e; simp at this; exact hgne this.symm)).trans ((World.cell?_setCell_other _ _ _ _ (by intro e; have := congrArg Addr.block e; simp at this; exact hgne this.symm)).trans (hg)))))) | n + 1, h => simp at h⟩⟩, (((((((k0.trans hk1).set (by simp) _).set (by simp) _).set (by simp) _).set (by simp) _).set (by simp) _).set (by simp) _)⟩
set_option maxHeartbeats 8000000 in
set_option maxRecDepth 100000 in
theorem ex_12 (w : World) : Calls Tryz.prog 57 #[.int .i64 12] w fun e w' => ∃ v, e = .returned v ∧ WrOk w' v 3 42 0 0 [] ∧ Kept w w' := by
  have r0 := Cells.new w 61 zeroW
  have k0 : Kept w (w.alloc (.cells zeroW 61)) := Kept.alloc (Below.refl _ _) _
  have hC := wordWriter_ok (w.alloc (.cells zeroW 61)) { data := #[116, 114, 117, 101] }
  go_enter Tryz.func57, Tryz.ntmps57
  go_wp2_with (go_at_call 70; refine hC.mono ?_; rintro e w1 ⟨v, rfl, hv, hk1⟩; obtain ⟨sl, c, f, x, y, rfl, hsl⟩ := id hv; have r1 := r0.kept hk1; have d0 := r1.cell 0; have d1 := r1.cell 1; have d2 := r1.cell 2; have d3 := r1.cell 3; have d4 := r1.cell 4; have d5 := r1.cell 5; have g0 := r1.frozen 0; have g1 := r1.frozen 1; have g2 := r1.frozen 2; have g3 := r1.frozen 3; have g4 := r1.frozen 4; have g5 := r1.frozen 5; have lr := r1.lt; simp at d0 d1 d2 d3 d4 d5)
  have z := ((((((r1.set 0 (.int .i64 3)).set 1 (.func (.func 42) #[] #[])).set 2 (.int .i64 0)).set 3 (.int .i64 0)).set 4 (.slice sl 0 c)).set 5 (.func f x y))
  have z0 := z.cell 0; have z1 := z.cell 1; have z2 := z.cell 2; have z3 := z.cell 3; have z4 := z.cell 4; have z5 := z.cell 5
  exact bodyPost_ret (v := .agg #[.int .i64 3, .func (.func 42) #[] #[], .int .i64 0, .int .i64 0, .slice sl 0 c, .func f x y]) (by simp [results, Tryz.results57, go_sem, z0, z1, z2, z3, z4, z5]) rfl ⟨_, rfl, hv.put6 r1 (.inl rfl) _ _ _ _ _ _, (((((((k0.trans hk1).set (by simp) _).set (by simp) _).set (by simp) _).set (by simp) _).set (by simp) _).set (by simp) _)⟩
set_option maxHeartbeats 8000000 in
set_option maxRecDepth 100000 in
theorem ex_13 (w : World) : Calls Tryz.prog 57 #[.int .i64 13] w fun e w' => ∃ v, e = .returned v ∧ WrOk w' v 3 42 0 0 [] ∧ Kept w w' := by
  have r0 := Cells.new w 61 zeroW
  have k0 : Kept w (w.alloc (.cells zeroW 61)) := Kept.alloc (Below.refl _ _) _
  have hC := wordWriter_ok (w.alloc (.cells zeroW 61)) { data := #[102, 97, 108, 115, 101] }
  go_enter Tryz.func57, Tryz.ntmps57
  go_wp2_with (go_at_call 70; refine hC.mono ?_; rintro e w1 ⟨v, rfl, hv, hk1⟩; obtain ⟨sl, c, f, x, y, rfl, hsl⟩ := id hv; have r1 := r0.kept hk1; have d0 := r1.cell 0; have d1 := r1.cell 1; have d2 := r1.cell 2; have d3 := r1.cell 3; have d4 := r1.cell 4; have d5 := r1.cell 5; have g0 := r1.frozen 0; have g1 := r1.frozen 1; have g2 := r1.frozen 2; have g3 := r1.frozen 3; have g4 := r1.frozen 4; have g5 := r1.frozen 5; have lr := r1.lt; simp at d0 d1 d2 d3 d4 d5)
  have z := ((((((r1.set 0 (.int .i64 3)).set 1 (.func (.func 42) #[] #[])).set 2 (.int .i64 0)).set 3 (.int .i64 0)).set 4 (.slice sl 0 c)).set 5 (.func f x y))
  have z0 := z.cell 0; have z1 := z.cell 1; have z2 := z.cell 2; have z3 := z.cell 3; have z4 := z.cell 4; have z5 := z.cell 5
  exact bodyPost_ret (v := .agg #[.int .i64 3, .func (.func 42) #[] #[], .int .i64 0, .int .i64 0, .slice sl 0 c, .func f x y]) (by simp [results, Tryz.results57, go_sem, z0, z1, z2, z3, z4, z5]) rfl ⟨_, rfl, hv.put6 r1 (.inl rfl) _ _ _ _ _ _, (((((((k0.trans hk1).set (by simp) _).set (by simp) _).set (by simp) _).set (by simp) _).set (by simp) _).set (by simp) _)⟩
set_option maxHeartbeats 8000000 in
set_option maxRecDepth 100000 in
theorem ex_14 (w : World) : Calls Tryz.prog 57 #[.int .i64 14] w fun e w' => ∃ v, e = .returned v ∧ WrOk w' v 3 42 0 0 [] ∧ Kept w w' := by
  have r0 := Cells.new w 61 zeroW
  have k0 : Kept w (w.alloc (.cells zeroW 61)) := Kept.alloc (Below.refl _ _) _
  have hC := wordWriter_ok (w.alloc (.cells zeroW 61)) { data := #[110, 117, 108, 108] }
  go_enter Tryz.func57, Tryz.ntmps57
  go_wp2_with (go_at_call 70; refine hC.mono ?_; rintro e w1 ⟨v, rfl, hv, hk1⟩; obtain ⟨sl, c, f, x, y, rfl, hsl⟩ := id hv; have r1 := r0.kept hk1; have d0 := r1.cell 0; have d1 := r1.cell 1; have d2 := r1.cell 2; have d3 := r1.cell 3; have d4 := r1.cell 4; have d5 := r1.cell 5; have g0 := r1.frozen 0; have g1 := r1.frozen 1; have g2 := r1.frozen 2; have g3 := r1.frozen 3; have g4 := r1.frozen 4; have g5 := r1.frozen 5; have lr := r1.lt; simp at d0 d1 d2 d3 d4 d5)
  have z := ((((((r1.set 0 (.int .i64 3)).set 1 (.func (.func 42) #[] #[])).set 2 (.int .i64 0)).set 3 (.int .i64 0)).set 4 (.slice sl 0 c)).set 5 (.func f x y))
  have z0 := z.cell 0; have z1 := z.cell 1; have z2 := z.cell 2; have z3 := z.cell 3; have z4 := z.cell 4; have z5 := z.cell 5
  exact bodyPost_ret (v := .agg #[.int .i64 3, .func (.func 42) #[] #[], .int .i64 0, .int .i64 0, .slice sl 0 c, .func f x y]) (by simp [results, Tryz.results57, go_sem, z0, z1, z2, z3, z4, z5]) rfl ⟨_, rfl, hv.put6 r1 (.inl rfl) _ _ _ _ _ _, (((((((k0.trans hk1).set (by simp) _).set (by simp) _).set (by simp) _).set (by simp) _).set (by simp) _).set (by simp) _)⟩
set_option maxHeartbeats 8000000 in
set_option maxRecDepth 100000 in
theorem ex_15 (w : World) : Calls Tryz.prog 57 #[.int .i64 15] w fun e w' => ∃ v, e = .returned v ∧ WrOk w' v 3 42 0 0 [] ∧ Kept w w' := by
  have r0 := Cells.new w 61 zeroW
  have k0 : Kept w (w.alloc (.cells zeroW 61)) := Kept.alloc (Below.refl _ _) _
  have hC := wordWriter_ok (w.alloc (.cells zeroW 61)) { data := #[117, 110, 100, 101, 102, 105, 110, 101, 100] }
  go_enter Tryz.func57, Tryz.ntmps57
  go_wp2_with (go_at_call 70; refine hC.mono ?_; rintro e w1 ⟨v, rfl, hv, hk1⟩; obtain ⟨sl, c, f, x, y, rfl, hsl⟩ := id hv; have r1 := r0.kept hk1; have d0 := r1.cell 0; have d1 := r1.cell 1; have d2 := r1.cell 2; have d3 := r1.cell 3; have d4 := r1.cell 4; have d5 := r1.cell 5; have g0 := r1.frozen 0; have g1 := r1.frozen 1; have g2 := r1.frozen 2; have g3 := r1.frozen 3; have g4 := r1.frozen 4; have g5 := r1.frozen 5; have lr := r1.lt; simp at d0 d1 d2 d3 d4 d5)
  have z := ((((((r1.set 0 (.int .i64 3)).set 1 (.func (.func 42) #[] #[])).set 2 (.int .i64 0)).set 3 (.int .i64 0)).set 4 (.slice sl 0 c)).set 5 (.func f x y))
  have z0 := z.cell 0; have z1 := z.cell 1; have z2 := z.cell 2; have z3 := z.cell 3; have z4 := z.cell 4; have z5 := z.cell 5
  exact bodyPost_ret (v := .agg #[.int .i64 3, .func (.func 42) #[] #[], .int .i64 0, .int .i64 0, .slice sl 0 c, .func f x y]) (by simp [results, Tryz.results57, go_sem, z0, z1, z2, z3, z4, z5]) rfl ⟨_, rfl, hv.put6 r1 (.inl rfl) _ _ _ _ _ _, (((((((k0.trans hk1).set (by simp) _).set (by simp) _).set (by simp) _).set (by simp) _).set (by simp) _).set (by simp) _)⟩
set_option maxHeartbeats 8000000 in
set_option maxRecDepth 100000 in
theorem ex_19 (w : World) : Calls Tryz.prog 57 #[.int .i64 19] w fun e w' => ∃ v, e = .returned v ∧ WrOk w' v 3 42 2 2 [3, 3] ∧ Kept w w' := by
  have r0 := Cells.new w 61 zeroW
  have k0 : Kept w (w.alloc (.cells zeroW 61)) := Kept.alloc (Below.refl _ _) _
  have hC := signWriter_ok (w.alloc (.cells zeroW 61)) { data := #[43] }
  go_enter Tryz.func57, Tryz.ntmps57
  go_wp2_with (go_at_call 73; refine hC.mono ?_; rintro e w1 ⟨v, rfl, hv, hk1⟩; obtain ⟨sl, c, f, x, y, rfl, hsl⟩ := id hv; have r1 := r0.kept hk1; have d0 := r1.cell 0; have d1 := r1.cell 1; have d2 := r1.cell 2; have d3 := r1.cell 3; have d4 := r1.cell 4; have d5 := r1.cell 5; have g0 := r1.frozen 0; have g1 := r1.frozen 1; have g2 := r1.frozen 2; have g3 := r1.frozen 3; have g4 := r1.frozen 4; have g5 := r1.frozen 5; have lr := r1.lt; simp at d0 d1 d2 d3 d4 d5)
  have z := ((((((r1.set 0 (.int .i64 3)).set 1 (.func (.func 42) #[] #[])).set 2 (.int .i64 2)).set 3 (.int .i64 2)).set 4 (.slice sl 2 c)).set 5 (.func f x y))
  have z0 := z.cell 0; have z1 := z.cell 1; have z2 := z.cell 2; have z3 := z.cell 3; have z4 := z.cell 4; have z5 := z.cell 5
  exact bodyPost_ret (v := .agg #[.int .i64 3, .func (.func 42) #[] #[], .int .i64 2, .int .i64 2, .slice sl 2 c, .func f x y]) (by simp [results, Tryz.results57, go_sem, z0, z1, z2, z3, z4, z5]) rfl ⟨_, rfl, hv.put6 r1 (.inr ⟨_, _, rfl, by decide⟩) _ _ _ _ _ _, (((((((k0.trans hk1).set (by simp) _).set (by simp) _).set (by simp) _).set (by simp) _).set (by simp) _).set (by simp) _)⟩
set_option maxHeartbeats 8000000 in
set_option maxRecDepth 100000 in
theorem ex_20 (w : World) : Calls Tryz.prog 57 #[.int .i64 20] w fun e w' => ∃ v, e = .returned v ∧ WrOk w' v 3 42 2 2 [3, 3] ∧ Kept w w' := by
  have r0 := Cells.new w 61 zeroW
  have k0 : Kept w (w.alloc (.cells zeroW 61)) := Kept.alloc (Below.refl _ _) _
  have hC := signWriter_ok (w.alloc (.cells zeroW 61)) { data := #[45] }
  go_enter Tryz.func57, Tryz.ntmps57
  go_wp2_with (go_at_call 73; refine hC.mono ?_; rintro e w1 ⟨v, rfl, hv, hk1⟩; obtain ⟨sl, c, f, x, y, rfl, hsl⟩ := id hv; have r1 := r0.kept hk1; have d0 := r1.cell 0; have d1 := r1.cell 1; have d2 := r1.cell 2; have d3 := r1.cell 3; have d4 := r1.cell 4; have d5 := r1.cell 5; have g0 := r1.frozen 0; have g1 := r1.frozen 1; have g2 := r1.frozen 2; have g3 := r1.frozen 3; have g4 := r1.frozen 4; have g5 := r1.frozen 5; have lr := r1.lt; simp at d0 d1 d2 d3 d4 d5)
  have z := ((((((r1.set 0 (.int .i64 3)).set 1 (.func (.func 42) #[] #[])).set 2 (.int .i64 2)).set 3 (.int .i64 2)).set 4 (.slice sl 2 c)).set 5 (.func f x y))
  have z0 := z.cell 0; have z1 := z.cell 1; have z2 := z.cell 2; have z3 := z.cell 3; have z4 := z.cell 4; have z5 := z.cell 5
  exact bodyPost_ret (v := .agg #[.int .i64 3, .func (.func 42) #[] #[], .int .i64 2, .int .i64 2, .slice sl 2 c, .func f x y]) (by simp [results, Tryz.results57, go_sem, z0, z1, z2, z3, z4, z5]) rfl ⟨_, rfl, hv.put6 r1 (.inr ⟨_, _, rfl, by decide⟩) _ _ _ _ _ _, (((((((k0.trans hk1).set (by simp) _).set (by simp) _).set (by simp) _).set (by simp) _).set (by simp) _).set (by simp) _)⟩
set_option maxHeartbeats 8000000 in
set_option maxRecDepth 100000 in
theorem ex_21 (w : World) : Calls Tryz.prog 57 #[.int .i64 21] w fun e w' => ∃ v, e = .returned v ∧ WrOk w' v 3 42 2 2 [3, 3] ∧ Kept w w' := by
  have r0 := Cells.new w 61 zeroW
  have k0 : Kept w (w.alloc (.cells zeroW 61)) := Kept.alloc (Below.refl _ _) _
  have hC := signWriter_ok (w.alloc (.cells zeroW 61)) { data := #[42] }
  go_enter Tryz.func57, Tryz.ntmps57
  go_wp2_with (go_at_call 73; refine hC.mono ?_; rintro e w1 ⟨v, rfl, hv, hk1⟩; obtain ⟨sl, c, f, x, y, rfl, hsl⟩ := id hv; have r1 := r0.kept hk1; have d0 := r1.cell 0; have d1 := r1.cell 1; have d2 := r1.cell 2; have d3 := r1.cell 3; have d4 := r1.cell 4; have d5 := r1.cell 5; have g0 := r1.frozen 0; have g1 := r1.frozen 1; have g2 := r1.frozen 2; have g3 := r1.frozen 3; have g4 := r1.frozen 4; have g5 := r1.frozen 5; have lr := r1.lt; simp at d0 d1 d2 d3 d4 d5)
  have z := ((((((r1.set 0 (.int .i64 3)).set 1 (.func (.func 42) #[] #[])).set 2 (.int .i64 2)).set 3 (.int .i64 2)).set 4 (.slice sl 2 c)).set 5 (.func f x y))
  have z0 := z.cell 0; have z1 := z.cell 1; have z2 := z.cell 2; have z3 := z.cell 3; have z4 := z.cell 4; have z5 := z.cell 5
  exact bodyPost_ret (v := .agg #[.int .i64 3, .func (.func 42) #[] #[], .int .i64 2, .int .i64 2, .slice sl 2 c, .func f x y]) (by simp [results, Tryz.results57, go_sem, z0, z1, z2, z3, z4, z5]) rfl ⟨_, rfl, hv.put6 r1 (.inr ⟨_, _, rfl, by decide⟩) _ _ _ _ _ _, (((((((k0.trans hk1).set (by simp) _).set (by simp) _).set (by simp) _).set (by simp) _).set (by simp) _).set (by simp) _)⟩
set_option maxHeartbeats 8000000 in
set_option maxRecDepth 100000 in
theorem ex_22 (w : World) : Calls Tryz.prog 57 #[.int .i64 22] w fun e w' => ∃ v, e = .returned v ∧ WrOk w' v 3 42 2 2 [3, 3] ∧ Kept w w' := by
  have r0 := Cells.new w 61 zeroW
  have k0 : Kept w (w.alloc (.cells zeroW 61)) := Kept.alloc (Below.refl _ _) _
  have hC := signWriter_ok (w.alloc (.cells zeroW 61)) { data := #[60] }
  go_enter Tryz.func57, Tryz.ntmps57
  go_wp2_with (go_at_call 73; refine hC.mono ?_; rintro e w1 ⟨v, rfl, hv, hk1⟩; obtain ⟨sl, c, f, x, y, rfl, hsl⟩ := id hv; have r1 := r0.kept hk1; have d0 := r1.cell 0; have d1 := r1.cell 1; have d2 := r1.cell 2; have d3 := r1.cell 3; have d4 := r1.cell 4; have d5 := r1.cell 5; have g0 := r1.frozen 0; have g1 := r1.frozen 1; have g2 := r1.frozen 2; have g3 := r1.frozen 3; have g4 := r1.frozen 4; have g5 := r1.frozen 5; have lr := r1.lt; simp at d0 d1 d2 d3 d4 d5)
  have z := ((((((r1.set 0 (.int .i64 3)).set 1 (.func (.func 42) #[] #[])).set 2 (.int .i64 2)).set 3 (.int .i64 2)).set 4 (.slice sl 2 c)).set 5 (.func f x y))
  have z0 := z.cell 0; have z1 := z.cell 1; have z2 := z.cell 2; have z3 := z.cell 3; have z4 := z.cell 4; have z5 := z.cell 5
  exact bodyPost_ret (v := .agg #[.int .i64 3, .func (.func 42) #[] #[], .int .i64 2, .int .i64 2, .slice sl 2 c, .func f x y]) (by simp [results, Tryz.results57, go_sem, z0, z1, z2, z3, z4, z5]) rfl ⟨_, rfl, hv.put6 r1 (.inr ⟨_, _, rfl, by decide⟩) _ _ _ _ _ _, (((((((k0.trans hk1).set (by simp) _).set (by simp) _).set (by simp) _).set (by simp) _).set (by simp) _).set (by simp) _)⟩
set_option maxHeartbeats 8000000 in
set_option maxRecDepth 100000 in
theorem ex_23 (w : World) : Calls Tryz.prog 57 #[.int .i64 23] w fun e w' => ∃ v, e = .returned v ∧ WrOk w' v 3 42 2 2 [3, 3] ∧ Kept w w' := by
  have r0 := Cells.new w 61 zeroW
  have k0 : Kept w (w.alloc (.cells zeroW 61)) := Kept.alloc (Below.refl _ _) _
  have hC := signWriter_ok (w.alloc (.cells zeroW 61)) { data := #[61, 61] }
  go_enter Tryz.func57, Tryz.ntmps57
  go_wp2_with (go_at_call 73; refine hC.mono ?_; rintro e w1 ⟨v, rfl, hv, hk1⟩; obtain ⟨sl, c, f, x, y, rfl, hsl⟩ := id hv; have r1 := r0.kept hk1; have d0 := r1.cell 0; have d1 := r1.cell 1; have d2 := r1.cell 2; have d3 := r1.cell 3; have d4 := r1.cell 4; have d5 := r1.cell 5; have g0 := r1.frozen 0; have g1 := r1.frozen 1; have g2 := r1.frozen 2; have g3 := r1.frozen 3; have g4 := r1.frozen 4; have g5 := r1.frozen 5; have lr := r1.lt; simp at d0 d1 d2 d3 d4 d5)
  have z := ((((((r1.set 0 (.int .i64 3)).set 1 (.func (.func 42) #[] #[])).set 2 (.int .i64 2)).set 3 (.int .i64 2)).set 4 (.slice sl 2 c)).set 5 (.func f x y))
  have z0 := z.cell 0; have z1 := z.cell 1; have z2 := z.cell 2; have z3 := z.cell 3; have z4 := z.cell 4; have z5 := z.cell 5
  exact bodyPost_ret (v := .agg #[.int .i64 3, .func (.func 42) #[] #[], .int .i64 2, .int .i64 2, .slice sl 2 c, .func f x y]) (by simp [results, Tryz.results57, go_sem, z0, z1, z2, z3, z4, z5]) rfl ⟨_, rfl, hv.put6 r1 (.inr ⟨_, _, rfl, by decide⟩) _ _ _ _ _ _, (((((((k0.trans hk1).set (by simp) _).set (by simp) _).set (by simp) _).set (by simp) _).set (by simp) _).set (by simp) _)⟩
set_option maxHeartbeats 8000000 in
set_option maxRecDepth 100000 in
theorem wr_10 (w : World) : Calls Tryz.prog 31 #[.int .i64 10] w fun e w' => ∃ v, e = .returned v ∧ WrOk w' v 3 66 0 0 [] ∧ Kept w w' := by
  have r0 := Cells.new w 61 zeroW
  have k0 : Kept w (w.alloc (.cells zeroW 61)) := Kept.alloc (Below.refl _ _) _
  have hC := ex_10 (w.alloc (.cells zeroW 61))
  go_enter Tryz.func31, Tryz.ntmps31
  go_wp2_with (go_at_call 57; refine hC.mono ?_; rintro e w1 ⟨v, rfl, hv, hk1⟩; obtain ⟨sl, c, f, x, y, rfl, hsl⟩ := id hv; have r1 := r0.kept hk1; have d0 := r1.cell 0; have d1 := r1.cell 1; have d2 := r1.cell 2; have d3 := r1.cell 3; have d4 := r1.cell 4; have d5 := r1.cell 5; have g0 := r1.frozen 0; have g1 := r1.frozen 1; have g2 := r1.frozen 2; have g3 := r1.frozen 3; have g4 := r1.frozen 4; have g5 := r1.frozen 5; have lr := r1.lt; simp at d0 d1 d2 d3 d4 d5)
  have z := ((((((r1.set 0 (.int .i64 3)).set 1 (.func (.func 66) #[] #[])).set 2 (.int .i64 0)).set 3 (.int .i64 0)).set 4 (.slice sl 0 c)).set 5 (.func f x y))
  have z0 := z.cell 0; have z1 := z.cell 1; have z2 := z.cell 2; have z3 := z.cell 3; have z4 := z.cell 4; have z5 := z.cell 5
  exact bodyPost_ret (v := .agg #[.int .i64 3, .func (.func 66) #[] #[], .int .i64 0, .int .i64 0, .slice sl 0 c, .func f x y]) (by simp [results, Tryz.results31, go_sem, z0, z1, z2, z3, z4, z5]) rfl ⟨_, rfl, hv.put6 r1 (.inl rfl) _ _ _ _ _ _, (((((((k0.trans hk1).set (by simp) _).set (by simp) _).set (by simp) _).set (by simp) _).set (by simp) _).set (by simp) _)⟩
set_option maxHeartbeats 8000000 in
set_option maxRecDepth 100000 in
theorem wr_11 (w : World) : Calls Tryz.prog 31 #[.int .i64 11] w fun e w' => ∃ v, e = .returned v ∧ WrOk w' v 3 68 0 0 [] ∧ Kept w w' := by
  have r0 := Cells.new w 61 zeroW
  have k0 : Kept w (w.alloc (.cells zeroW 61)) := Kept.alloc (Below.refl _ _) _
  have hC := ex_11 (w.alloc (.cells zeroW 61))
  go_enter Tryz.func31, Tryz.ntmps31
  go_wp2_with (go_at_call 57; refine hC.mono ?_; rintro e w1 ⟨v, rfl, hv, hk1⟩; obtain ⟨sl, c, f, x, y, rfl, hsl⟩ := id hv; have r1 := r0.kept hk1; have d0 := r1.cell 0; have d1 := r1.cell 1; have d2 := r1.cell 2; have d3 := r1.cell 3; have d4 := r1.cell 4; have d5 := r1.cell 5; have g0 := r1.frozen 0; have g1 := r1.frozen 1; have g2 := r1.frozen 2; have g3 := r1.frozen 3; have g4 := r1.frozen 4; have g5 := r1.frozen 5; have lr := r1.lt; simp at d0 d1 d2 d3 d4 d5)
  have z := ((((((r1.set 0 (.int .i64 3)).set 1 (.func (.func 68) #[] #[])).set 2 (.int .i64 0)).set 3 (.int .i64 0)).set 4 (.slice sl 0 c)).set 5 (.func f x y))
  have z0 := z.cell 0; have z1 := z.cell 1; have z2 := z.cell 2; have z3 := z.cell 3; have z4 := z.cell 4; have z5 := z.cell 5
  exact bodyPost_ret (v := .agg #[.int .i64 3, .func (.func 68) #[] #[], .int .i64 0, .int .i64 0, .slice sl 0 c, .func f x y]) (by simp [results, Tryz.results31, go_sem, z0, z1, z2, z3, z4, z5]) rfl ⟨_, rfl, hv.put6 r1 (.inl rfl) _ _ _ _ _ _, (((((((k0.trans hk1).set (by simp) _).set (by simp) _).set (by simp) _).set (by simp) _).set (by simp) _).set (by simp) _)⟩
set_option maxHeartbeats 8000000 in
set_option maxRecDepth 100000 in
theorem wr_12 (w : World) : Calls Tryz.prog 31 #[.int .i64 12] w fun e w' => ∃ v, e = .returned v ∧ WrOk w' v 3 42 0 0 [] ∧ Kept w w' := by
  have r0 := Cells.new w 61 zeroW
  have k0 : Kept w (w.alloc (.cells zeroW 61)) := Kept.alloc (Below.refl _ _) _
  have hC := ex_12 (w.alloc (.cells zeroW 61))
  go_enter Tryz.func31, Tryz.ntmps31
  go_wp2_with (go_at_call 57; refine hC.mono ?_; rintro e w1 ⟨v, rfl, hv, hk1⟩; obtain ⟨sl, c, f, x, y, rfl, hsl⟩ := id hv; have r1 := r0.kept hk1; have d0 := r1.cell 0; have d1 := r1.cell 1; have d2 := r1.cell 2; have d3 := r1.cell 3; have d4 := r1.cell 4; have d5 := r1.cell 5; have g0 := r1.frozen 0; have g1 := r1.frozen 1; have g2 := r1.frozen 2; have g3 := r1.frozen 3; have g4 := r1.frozen 4; have g5 := r1.frozen 5; have lr := r1.lt; simp at d0 d1 d2 d3 d4 d5)
  have z := ((((((r1.set 0 (.int .i64 3)).set 1 (.func (.func 42) #[] #[])).set 2 (.int .i64 0)).set 3 (.int .i64 0)).set 4 (.slice sl 0 c)).set 5 (.func f x y))
  have z0 := z.cell 0; have z1 := z.cell 1; have z2 := z.cell 2; have z3 := z.cell 3; have z4 := z.cell 4; have z5 := z.cell 5
  exact bodyPost_ret (v := .agg #[.int .i64 3, .func (.func 42) #[] #[], .int .i64 0, .int .i64 0, .slice sl 0 c, .func f x y]) (by simp [results, Tryz.results31, go_sem, z0, z1, z2, z3, z4, z5]) rfl ⟨_, rfl, hv.put6 r1 (.inl rfl) _ _ _ _ _ _, (((((((k0.trans hk1).set (by simp) _).set (by simp) _).set (by simp) _).set (by simp) _).set (by simp) _).set (by simp) _)⟩
set_option maxHeartbeats 8000000 in
set_option maxRecDepth 100000 in
theorem wr_13 (w : World) : Calls Tryz.prog 31 #[.int .i64 13] w fun e w' => ∃ v, e = .returned v ∧ WrOk w' v 3 42 0 0 [] ∧ Kept w w' := by
  have r0 := Cells.new w 61 zeroW
  have k0 : Kept w (w.alloc (.cells zeroW 61)) := Kept.alloc (Below.refl _ _) _
  have hC := ex_13 (w.alloc (.cells zeroW 61))
  go_enter Tryz.func31, Tryz.ntmps31
  go_wp2_with (go_at_call 57; refine hC.mono ?_; rintro e w1 ⟨v, rfl, hv, hk1⟩; obtain ⟨sl, c, f, x, y, rfl, hsl⟩ := id hv; have r1 := r0.kept hk1; have d0 := r1.cell 0; have d1 := r1.cell 1; have d2 := r1.cell 2; have d3 := r1.cell 3; have d4 := r1.cell 4; have d5 := r1.cell 5; have g0 := r1.frozen 0; have g1 := r1.frozen 1; have g2 := r1.frozen 2; have g3 := r1.frozen 3; have g4 := r1.frozen 4; have g5 := r1.frozen 5; have lr := r1.lt; simp at d0 d1 d2 d3 d4 d5)
  have z := ((((((r1.set 0 (.int .i64 3)).set 1 (.func (.func 42) #[] #[])).set 2 (.int .i64 0)).set 3 (.int .i64 0)).set 4 (.slice sl 0 c)).set 5 (.func f x y))
  have z0 := z.cell 0; have z1 := z.cell 1; have z2 := z.cell 2; have z3 := z.cell 3; have z4 := z.cell 4; have z5 := z.cell 5
  exact bodyPost_ret (v := .agg #[.int .i64 3, .func (.func 42) #[] #[], .int .i64 0, .int .i64 0, .slice sl 0 c, .func f x y]) (by simp [results, Tryz.results31, go_sem, z0, z1, z2, z3, z4, z5]) rfl ⟨_, rfl, hv.put6 r1 (.inl rfl) _ _ _ _ _ _, (((((((k0.trans hk1).set (by simp) _).set (by simp) _).set (by simp) _).set (by simp) _).set (by simp) _).set (by simp) _)⟩
set_option maxHeartbeats 8000000 in
set_option maxRecDepth 100000 in
theorem wr_14 (w : World) : Calls Tryz.prog 31 #[.int .i64 14] w fun e w' => ∃ v, e = .returned v ∧ WrOk w' v 3 42 0 0 [] ∧ Kept w w' := by
  have r0 := Cells.new w 61 zeroW
  have k0 : Kept w (w.alloc (.cells zeroW 61)) := Kept.alloc (Below.refl _ _) _
  have hC := ex_14 (w.alloc (.cells zeroW 61))
  go_enter Tryz.func31, Tryz.ntmps31
  go_wp2_with (go_at_call 57; refine hC.mono ?_; rintro e w1 ⟨v, rfl, hv, hk1⟩; obtain ⟨sl, c, f, x, y, rfl, hsl⟩ := id hv; have r1 := r0.kept hk1; have d0 := r1.cell 0; have d1 := r1.cell 1; have d2 := r1.cell 2; have d3 := r1.cell 3; have d4 := r1.cell 4; have d5 := r1.cell 5; have g0 := r1.frozen 0; have g1 := r1.frozen 1; have g2 := r1.frozen 2; have g3 := r1.frozen 3; have g4 := r1.frozen 4; have g5 := r1.frozen 5; have lr := r1.lt; simp at d0 d1 d2 d3 d4 d5)
  have z := ((((((r1.set 0 (.int .i64 3)).set 1 (.func (.func 42) #[] #[])).set 2 (.int .i64 0)).set 3 (.int .i64 0)).set 4 (.slice sl 0 c)).set 5 (.func f x y))
  have z0 := z.cell 0; have z1 := z.cell 1; have z2 := z.cell 2; have z3 := z.cell 3; have z4 := z.cell 4; have z5 := z.cell 5
  exact bodyPost_ret (v := .agg #[.int .i64 3, .func (.func 42) #[] #[], .int .i64 0, .int .i64 0, .slice sl 0 c, .func f x y]) (by simp [results, Tryz.results31, go_sem, z0, z1, z2, z3, z4, z5]) rfl ⟨_, rfl, hv.put6 r1 (.inl rfl) _ _ _ _ _ _, (((((((k0.trans hk1).set (by simp) _).set (by simp) _).set (by simp) _).set (by simp) _).set (by simp) _).set (by simp) _)⟩
set_option maxHeartbeats 8000000 in
set_option maxRecDepth 100000 in
theorem wr_15 (w : World) : Calls Tryz.prog 31 #[.int .i64 15] w fun e w' => ∃ v, e = .returned v ∧ WrOk w' v 3 42 0 0 [] ∧ Kept w w' := by
  have r0 := Cells.new w 61 zeroW
  have k0 : Kept w (w.alloc (.cells zeroW 61)) := Kept.alloc (Below.refl _ _) _
  have hC := ex_15 (w.alloc (.cells zeroW 61))
  go_enter Tryz.func31, Tryz.ntmps31
  go_wp2_with (go_at_call 57; refine hC.mono ?_; rintro e w1 ⟨v, rfl, hv, hk1⟩; obtain ⟨sl, c, f, x, y, rfl, hsl⟩ := id hv; have r1 := r0.kept hk1; have d0 := r1.cell 0; have d1 := r1.cell 1; have d2 := r1.cell 2; have d3 := r1.cell 3; have d4 := r1.cell 4; have d5 := r1.cell 5; have g0 := r1.frozen 0; have g1 := r1.frozen 1; have g2 := r1.frozen 2; have g3 := r1.frozen 3; have g4 := r1.frozen 4; have g5 := r1.frozen 5; have lr := r1.lt; simp at d0 d1 d2 d3 d4 d5)
  have z := ((((((r1.set 0 (.int .i64 3)).set 1 (.func (.func 42) #[] #[])).set 2 (.int .i64 0)).set 3 (.int .i64 0)).set 4 (.slice sl 0 c)).set 5 (.func f x y))
  have z0 := z.cell 0; have z1 := z.cell 1; have z2 := z.cell 2; have z3 := z.cell 3; have z4 := z.cell 4; have z5 := z.cell 5
  exact bodyPost_ret (v := .agg #[.int .i64 3, .func (.func 42) #[] #[], .int .i64 0, .int .i64 0, .slice sl 0 c, .func f x y]) (by simp [results, Tryz.results31, go_sem, z0, z1, z2, z3, z4, z5]) rfl ⟨_, rfl, hv.put6 r1 (.inl rfl) _ _ _ _ _ _, (((((((k0.trans hk1).set (by simp) _).set (by simp) _).set (by simp) _).set (by simp) _).set (by simp) _).set (by simp) _)⟩
set_option maxHeartbeats 8000000 in
set_option maxRecDepth 100000 in
theorem wr_16 (w : World) : Calls Tryz.prog 31 #[.int .i64 16] w fun e w' => ∃ v, e = .returned v ∧ WrOk w' v 3 45 0 0 [] ∧ Kept w w' := by
  have r0 := Cells.new w 61 zeroW
  have k0 : Kept w (w.alloc (.cells zeroW 61)) := Kept.alloc (Below.refl _ _) _
  have hC := ex_16 (w.alloc (.cells zeroW 61))
  go_enter Tryz.func31, Tryz.ntmps31
  go_wp2_with (go_at_call 57; refine hC.mono ?_; rintro e w1 ⟨v, rfl, hv, hk1⟩; obtain ⟨sl, c, f, x, y, rfl, hsl⟩ := id hv; have r1 := r0.kept hk1; have d0 := r1.cell 0; have d1 := r1.cell 1; have d2 := r1.cell 2; have d3 := r1.cell 3; have d4 := r1.cell 4; have d5 := r1.cell 5; have g0 := r1.frozen 0; have g1 := r1.frozen 1; have g2 := r1.frozen 2; have g3 := r1.frozen 3; have g4 := r1.frozen 4; have g5 := r1.frozen 5; have lr := r1.lt; simp at d0 d1 d2 d3 d4 d5)
  have z := ((((((r1.set 0 (.int .i64 3)).set 1 (.func (.func 45) #[] #[])).set 2 (.int .i64 0)).set 3 (.int .i64 0)).set 4 (.slice sl 0 c)).set 5 (.func f x y))
  have z0 := z.cell 0; have z1 := z.cell 1; have z2 := z.cell 2; have z3 := z.cell 3; have z4 := z.cell 4; have z5 := z.cell 5
  exact bodyPost_ret (v := .agg #[.int .i64 3, .func (.func 45) #[] #[], .int .i64 0, .int .i64 0, .slice sl 0 c, .func f x y]) (by simp [results, Tryz.results31, go_sem, z0, z1, z2, z3, z4, z5]) rfl ⟨_, rfl, hv.put6 r1 (.inl rfl) _ _ _ _ _ _, (((((((k0.trans hk1).set (by simp) _).set (by simp) _).set (by simp) _).set (by simp) _).set (by simp) _).set (by simp) _)⟩
set_option maxHeartbeats 8000000 in
set_option maxRecDepth 100000 in
theorem wr_17 (w : World) : Calls Tryz.prog 31 #[.int .i64 17] w fun e w' => ∃ v, e = .returned v ∧ WrOk w' v 3 49 1 1 [3] ∧ Kept w w' := by
  have r0 := Cells.new w 61 zeroW
  have k0 : Kept w (w.alloc (.cells zeroW 61)) := Kept.alloc (Below.refl _ _) _
  have hC := ex_17 (w.alloc (.cells zeroW 61))
  go_enter Tryz.func31, Tryz.ntmps31
  go_wp2_with (go_at_call 57; refine hC.mono ?_; rintro e w1 ⟨v, rfl, hv, hk1⟩; obtain ⟨sl, c, f, x, y, rfl, hsl⟩ := id hv; have r1 := r0.kept hk1; have d0 := r1.cell 0; have d1 := r1.cell 1; have d2 := r1.cell 2; have d3 := r1.cell 3; have d4 := r1.cell 4; have d5 := r1.cell 5; have g0 := r1.frozen 0; have g1 := r1.frozen 1; have g2 := r1.frozen 2; have g3 := r1.frozen 3; have g4 := r1.frozen 4; have g5 := r1.frozen 5; have lr := r1.lt; simp at d0 d1 d2 d3 d4 d5)
  have z := ((((((r1.set 0 (.int .i64 3)).set 1 (.func (.func 49) #[] #[])).set 2 (.int .i64 1)).set 3 (.int .i64 1)).set 4 (.slice sl 1 c)).set 5 (.func f x y))
  have z0 := z.cell 0; have z1 := z.cell 1; have z2 := z.cell 2; have z3 := z.cell 3; have z4 := z.cell 4; have z5 := z.cell 5
  exact bodyPost_ret (v := .agg #[.int .i64 3, .func (.func 49) #[] #[], .int .i64 1, .int .i64 1, .slice sl 1 c, .func f x y]) (by simp [results, Tryz.results31, go_sem, z0, z1, z2, z3, z4, z5]) rfl ⟨_, rfl, hv.put6 r1 (.inr ⟨_, _, rfl, by decide⟩) _ _ _ _ _ _, (((((((k0.trans hk1).set (by simp) _).set (by simp) _).set (by simp) _).set (by simp) _).set (by simp) _).set (by simp) _)⟩
set_option maxHeartbeats 8000000 in
set_option maxRecDepth 100000 in
theorem wr_18 (w : World) : Calls Tryz.prog 31 #[.int .i64 18] w fun e w' => ∃ v, e = .returned v ∧ WrOk w' v 3 42 1 200 [3] ∧ Kept w w' := by
  have r0 := Cells.new w 61 zeroW
  have k0 : Kept w (w.alloc (.cells zeroW 61)) := Kept.alloc (Below.refl _ _) _
  have hC := ex_18 (w.alloc (.cells zeroW 61))
  go_enter Tryz.func31, Tryz.ntmps31
  go_wp2_with (go_at_call 57; refine hC.mono ?_; rintro e w1 ⟨v, rfl, hv, hk1⟩; obtain ⟨sl, c, f, x, y, rfl, hsl⟩ := id hv; have r1 := r0.kept hk1; have d0 := r1.cell 0; have d1 := r1.cell 1; have d2 := r1.cell 2; have d3 := r1.cell 3; have d4 := r1.cell 4; have d5 := r1.cell 5; have g0 := r1.frozen 0; have g1 := r1.frozen 1; have g2 := r1.frozen 2; have g3 := r1.frozen 3; have g4 := r1.frozen 4; have g5 := r1.frozen 5; have lr := r1.lt; simp at d0 d1 d2 d3 d4 d5)
  have z := ((((((r1.set 0 (.int .i64 3)).set 1 (.func (.func 42) #[] #[])).set 2 (.int .i64 1)).set 3 (.int .i64 200)).set 4 (.slice sl 1 c)).set 5 (.func f x y))
  have z0 := z.cell 0; have z1 := z.cell 1; have z2 := z.cell 2; have z3 := z.cell 3; have z4 := z.cell 4; have z5 := z.cell 5
  exact bodyPost_ret (v := .agg #[.int .i64 3, .func (.func 42) #[] #[], .int .i64 1, .int .i64 200, .slice sl 1 c, .func f x y]) (by simp [results, Tryz.results31, go_sem, z0, z1, z2, z3, z4, z5]) rfl ⟨_, rfl, hv.put6 r1 (.inr ⟨_, _, rfl, by decide⟩) _ _ _ _ _ _, (((((((k0.trans hk1).set (by simp) _).set (by simp) _).set (by simp) _).set (by simp) _).set (by simp) _).set (by simp) _)⟩
set_option maxHeartbeats 8000000 in
set_option maxRecDepth 100000 in
theorem wr_19 (w : World) : Calls Tryz.prog 31 #[.int .i64 19] w fun e w' => ∃ v, e = .returned v ∧ WrOk w' v 3 42 2 2 [3, 3] ∧ Kept w w' := by
  have r0 := Cells.new w 61 zeroW
  have k0 : Kept w (w.alloc (.cells zeroW 61)) := Kept.alloc (Below.refl _ _) _
  have hC := ex_19 (w.alloc (.cells zeroW 61))
  go_enter Tryz.func31, Tryz.ntmps31
  go_wp2_with (go_at_call 57; refine hC.mono ?_; rintro e w1 ⟨v, rfl, hv, hk1⟩; obtain ⟨sl, c, f, x, y, rfl, hsl⟩ := id hv; have r1 := r0.kept hk1; have d0 := r1.cell 0; have d1 := r1.cell 1; have d2 := r1.cell 2; have d3 := r1.cell 3; have d4 := r1.cell 4; have d5 := r1.cell 5; have g0 := r1.frozen 0; have g1 := r1.frozen 1; have g2 := r1.frozen 2; have g3 := r1.frozen 3; have g4 := r1.frozen 4; have g5 := r1.frozen 5; have lr := r1.lt; simp at d0 d1 d2 d3 d4 d5)
  have z := ((((((r1.set 0 (.int .i64 3)).set 1 (.func (.func 42) #[] #[])).set 2 (.int .i64 2)).set 3 (.int .i64 2)).set 4 (.slice sl 2 c)).set 5 (.func f x y))
  have z0 := z.cell 0; have z1 := z.cell 1; have z2 := z.cell 2; have z3 := z.cell 3; have z4 := z.cell 4; have z5 := z.cell 5
  exact bodyPost_ret (v := .agg #[.int .i64 3, .func (.func 42) #[] #[], .int .i64 2, .int .i64 2, .slice sl 2 c, .func f x y]) (by simp [results, Tryz.results31, go_sem, z0, z1, z2, z3, z4, z5]) rfl ⟨_, rfl, hv.put6 r1 (.inr ⟨_, _, rfl, by decide⟩) _ _ _ _ _ _, (((((((k0.trans hk1).set (by simp) _).set (by simp) _).set (by simp) _).set (by simp) _).set (by simp) _).set (by simp) _)⟩
set_option maxHeartbeats 8000000 in
set_option maxRecDepth 100000 in
theorem wr_20 (w : World) : Calls Tryz.prog 31 #[.int .i64 20] w fun e w' => ∃ v, e = .returned v ∧ WrOk w' v 3 42 2 2 [3, 3] ∧ Kept w w' := by
  have r0 := Cells.new w 61 zeroW
  have k0 : Kept w (w.alloc (.cells zeroW 61)) := Kept.alloc (Below.refl _ _) _
  have hC := ex_20 (w.alloc (.cells zeroW 61))
  go_enter Tryz.func31, Tryz.ntmps31
  go_wp2_with (go_at_call 57; refine hC.mono ?_; rintro e w1 ⟨v, rfl, hv, hk1⟩; obtain ⟨sl, c, f, x, y, rfl, hsl⟩ := id hv; have r1 := r0.kept hk1; have d0 := r1.cell 0; have d1 := r1.cell 1; have d2 := r1.cell 2; have d3 := r1.cell 3; have d4 := r1.cell 4; have d5 := r1.cell 5; have g0 := r1.frozen 0; have g1 := r1.frozen 1; have g2 := r1.frozen 2; have g3 := r1.frozen 3; have g4 := r1.frozen 4; have g5 := r1.frozen 5; have lr := r1.lt; simp at d0 d1 d2 d3 d4 d5)
  have z := ((((((r1.set 0 (.int .i64 3)).set 1 (.func (.func 42) #[] #[])).set 2 (.int .i64 2)).set 3 (.int .i64 2)).set 4 (.slice sl 2 c)).set 5 (.func f x y))
  have z0 := z.cell 0; have z1 := z.cell 1; have z2 := z.cell 2; have z3 := z.cell 3; have z4 := z.cell 4; have z5 := z.cell 5
  exact bodyPost_ret (v := .agg #[.int .i64 3, .func (.func 42) #[] #[], .int .i64 2, .int .i64 2, .slice sl 2 c, .func f x y]) (by simp [results, Tryz.results31, go_sem, z0, z1, z2, z3, z4, z5]) rfl ⟨_, rfl, hv.put6 r1 (.inr ⟨_, _, rfl, by decide⟩) _ _ _ _ _ _, (((((((k0.trans hk1).set (by simp) _).set (by simp) _).set (by simp) _).set (by simp) _).set (by simp) _).set (by simp) _)⟩
set_option maxHeartbeats 8000000 in
set_option maxRecDepth 100000 in
theorem wr_21 (w : World) : Calls Tryz.prog 31 #[.int .i64 21] w fun e w' => ∃ v, e = .returned v ∧ WrOk w' v 3 42 2 2 [3, 3] ∧ Kept w w' := by
  have r0 := Cells.new w 61 zeroW
  have k0 : Kept w (w.alloc (.cells zeroW 61)) := Kept.alloc (Below.refl _ _) _
  have hC := ex_21 (w.alloc (.cells zeroW 61))
  go_enter Tryz.func31, Tryz.ntmps31
  go_wp2_with (go_at_call 57; refine hC.mono ?_; rintro e w1 ⟨v, rfl, hv, hk1⟩; obtain ⟨sl, c, f, x, y, rfl, hsl⟩ := id hv; have r1 := r0.kept hk1; have d0 := r1.cell 0; have d1 := r1.cell 1; have d2 := r1.cell 2; have d3 := r1.cell 3; have d4 := r1.cell 4; have d5 := r1.cell 5; have g0 := r1.frozen 0; have g1 := r1.frozen 1; have g2 := r1.frozen 2; have g3 := r1.frozen 3; have g4 := r1.frozen 4; have g5 := r1.frozen 5; have lr := r1.lt; simp at d0 d1 d2 d3 d4 d5)
  have z := ((((((r1.set 0 (.int .i64 3)).set 1 (.func (.func 42) #[] #[])).set 2 (.int .i64 2)).set 3 (.int .i64 2)).set 4 (.slice sl 2 c)).set 5 (.func f x y))
  have z0 := z.cell 0; have z1 := z.cell 1; have z2 := z.cell 2; have z3 := z.cell 3; have z4 := z.cell 4; have z5 := z.cell 5
  exact bodyPost_ret (v := .agg #[.int .i64 3, .func (.func 42) #[] #[], .int .i64 2, .int .i64 2, .slice sl 2 c, .func f x y]) (by simp [results, Tryz.results31, go_sem, z0, z1, z2, z3, z4, z5]) rfl ⟨_, rfl, hv.put6 r1 (.inr ⟨_, _, rfl, by decide⟩) _ _ _ _ _ _, (((((((k0.trans hk1).set (by simp) _).set (by simp) _).set (by simp) _).set (by simp) _).set (by simp) _).set (by simp) _)⟩
set_option maxHeartbeats 8000000 in
set_option maxRecDepth 100000 in
theorem wr_22 (w : World) : Calls Tryz.prog 31 #[.int .i64 22] w fun e w' => ∃ v, e = .returned v ∧ WrOk w' v 3 42 2 2 [3, 3] ∧ Kept w w' := by
  have r0 := Cells.new w 61 zeroW
  have k0 : Kept w (w.alloc (.cells zeroW 61)) := Kept.alloc (Below.refl _ _) _
  have hC := ex_22 (w.alloc (.cells zeroW 61))
  go_enter Tryz.func31, Tryz.ntmps31
  go_wp2_with (go_at_call 57; refine hC.mono ?_; rintro e w1 ⟨v, rfl, hv, hk1⟩; obtain ⟨sl, c, f, x, y, rfl, hsl⟩ := id hv; have r1 := r0.kept hk1; have d0 := r1.cell 0; have d1 := r1.cell 1; have d2 := r1.cell 2; have d3 := r1.cell 3; have d4 := r1.cell 4; have d5 := r1.cell 5; have g0 := r1.frozen 0; have g1 := r1.frozen 1; have g2 := r1.frozen 2; have g3 := r1.frozen 3; have g4 := r1.frozen 4; have g5 := r1.frozen 5; have lr := r1.lt; simp at d0 d1 d2 d3 d4 d5)
  have z := ((((((r1.set 0 (.int .i64 3)).set 1 (.func (.func 42) #[] #[])).set 2 (.int .i64 2)).set 3 (.int .i64 2)).set 4 (.slice sl 2 c)).set 5 (.func f x y))
  have z0 := z.cell 0; have z1 := z.cell 1; have z2 := z.cell 2; have z3 := z.cell 3; have z4 := z.cell 4; have z5 := z.cell 5
  exact bodyPost_ret (v := .agg #[.int .i64 3, .func (.func 42) #[] #[], .int .i64 2, .int .i64 2, .slice sl 2 c, .func f x y]) (by simp [results, Tryz.results31, go_sem, z0, z1, z2, z3, z4, z5]) rfl ⟨_, rfl, hv.put6 r1 (.inr ⟨_, _, rfl, by decide⟩) _ _ _ _ _ _, (((((((k0.trans hk1).set (by simp) _).set (by simp) _).set (by simp) _).set (by simp) _).set (by simp) _).set (by simp) _)⟩
set_option maxHeartbeats 8000000 in
set_option maxRecDepth 100000 in
theorem wr_23 (w : World) : Calls Tryz.prog 31 #[.int .i64 23] w fun e w' => ∃ v, e = .returned v ∧ WrOk w' v 3 42 2 2 [3, 3] ∧ Kept w w' := by
  have r0 := Cells.new w 61 zeroW
  have k0 : Kept w (w.alloc (.cells zeroW 61)) := Kept.alloc (Below.refl _ _) _
  have hC := ex_23 (w.alloc (.cells zeroW 61))
  go_enter Tryz.func31, Tryz.ntmps31
  go_wp2_with (go_at_call 57; refine hC.mono ?_; rintro e w1 ⟨v, rfl, hv, hk1⟩; obtain ⟨sl, c, f, x, y, rfl, hsl⟩ := id hv; have r1 := r0.kept hk1; have d0 := r1.cell 0; have d1 := r1.cell 1; have d2 := r1.cell 2; have d3 := r1.cell 3; have d4 := r1.cell 4; have d5 := r1.cell 5; have g0 := r1.frozen 0; have g1 := r1.frozen 1; have g2 := r1.frozen 2; have g3 := r1.frozen 3; have g4 := r1.frozen 4; have g5 := r1.frozen 5; have lr := r1.lt; simp at d0 d1 d2 d3 d4 d5)
  have z := ((((((r1.set 0 (.int .i64 3)).set 1 (.func (.func 42) #[] #[])).set 2 (.int .i64 2)).set 3 (.int .i64 2)).set 4 (.slice sl 2 c)).set 5 (.func f x y))
  have z0 := z.cell 0; have z1 := z.cell 1; have z2 := z.cell 2; have z3 := z.cell 3; have z4 := z.cell 4; have z5 := z.cell 5
  exact bodyPost_ret (v := .agg #[.int .i64 3, .func (.func 42) #[] #[], .int .i64 2, .int .i64 2, .slice sl 2 c, .func f x y]) (by simp [results, Tryz.results31, go_sem, z0, z1, z2, z3, z4, z5]) rfl ⟨_, rfl, hv.put6 r1 (.inr ⟨_, _, rfl, by decide⟩) _ _ _ _ _ _, (((((((k0.trans hk1).set (by simp) _).set (by simp) _).set (by simp) _).set (by simp) _).set (by simp) _).set (by simp) _)⟩
set_option maxHeartbeats 8000000 in
set_option maxRecDepth 100000 in
theorem wr_24 (w : World) : Calls Tryz.prog 31 #[.int .i64 24] w fun e w' => ∃ v, e = .returned v ∧ WrOk w' v 3 42 1 1 [3] ∧ Kept w w' := by
  have r0 := Cells.new w 61 zeroW
  have k0 : Kept w (w.alloc (.cells zeroW 61)) := Kept.alloc (Below.refl _ _) _
  have hC := ex_24 (w.alloc (.cells zeroW 61))
  go_enter Tryz.func31, Tryz.ntmps31
  go_wp2_with (go_at_call 57; refine hC.mono ?_; rintro e w1 ⟨v, rfl, hv, hk1⟩; obtain ⟨sl, c, f, x, y, rfl, hsl⟩ := id hv; have r1 := r0.kept hk1; have d0 := r1.cell 0; have d1 := r1.cell 1; have d2 := r1.cell 2; have d3 := r1.cell 3; have d4 := r1.cell 4; have d5 := r1.cell 5; have g0 := r1.frozen 0; have g1 := r1.frozen 1; have g2 := r1.frozen 2; have g3 := r1.frozen 3; have g4 := r1.frozen 4; have g5 := r1.frozen 5; have lr := r1.lt; simp at d0 d1 d2 d3 d4 d5)
  have z := ((((((r1.set 0 (.int .i64 3)).set 1 (.func (.func 42) #[] #[])).set 2 (.int .i64 1)).set 3 (.int .i64 1)).set 4 (.slice sl 1 c)).set 5 (.func f x y))
  have z0 := z.cell 0; have z1 := z.cell 1; have z2 := z.cell 2; have z3 := z.cell 3; have z4 := z.cell 4; have z5 := z.cell 5
  exact bodyPost_ret (v := .agg #[.int .i64 3, .func (.func 42) #[] #[], .int .i64 1, .int .i64 1, .slice sl 1 c, .func f x y]) (by simp [results, Tryz.results31, go_sem, z0, z1, z2, z3, z4, z5]) rfl ⟨_, rfl, hv.put6 r1 (.inr ⟨_, _, rfl, by decide⟩) _ _ _ _ _ _, (((((((k0.trans hk1).set (by simp) _).set (by simp) _).set (by simp) _).set (by simp) _).set (by simp) _).set (by simp) _)⟩
set_option maxHeartbeats 8000000 in
set_option maxRecDepth 100000 in
theorem wr_25 (w : World) : Calls Tryz.prog 31 #[.int .i64 25] w fun e w' => ∃ v, e = .returned v ∧ WrOk w' v 3 42 0 200 [4] ∧ Kept w w' := by
  have r0 := Cells.new w 61 zeroW
  have k0 : Kept w (w.alloc (.cells zeroW 61)) := Kept.alloc (Below.refl _ _) _
  have hC := ex_25 (w.alloc (.cells zeroW 61))
  go_enter Tryz.func31, Tryz.ntmps31
  go_wp2_with (go_at_call 57; refine hC.mono ?_; rintro e w1 ⟨v, rfl, hv, hk1⟩; obtain ⟨sl, c, f, x, y, rfl, hsl⟩ := id hv; have r1 := r0.kept hk1; have d0 := r1.cell 0; have d1 := r1.cell 1; have d2 := r1.cell 2; have d3 := r1.cell 3; have d4 := r1.cell 4; have d5 := r1.cell 5; have g0 := r1.frozen 0; have g1 := r1.frozen 1; have g2 := r1.frozen 2; have g3 := r1.frozen 3; have g4 := r1.frozen 4; have g5 := r1.frozen 5; have lr := r1.lt; simp at d0 d1 d2 d3 d4 d5)
  have z := ((((((r1.set 0 (.int .i64 3)).set 1 (.func (.func 42) #[] #[])).set 2 (.int .i64 0)).set 3 (.int .i64 200)).set 4 (.slice sl 1 c)).set 5 (.func f x y))
  have z0 := z.cell 0; have z1 := z.cell 1; have z2 := z.cell 2; have z3 := z.cell 3; have z4 := z.cell 4; have z5 := z.cell 5
  exact bodyPost_ret (v := .agg #[.int .i64 3, .func (.func 42) #[] #[], .int .i64 0, .int .i64 200, .slice sl 1 c, .func f x y]) (by simp [results, Tryz.results31, go_sem, z0, z1, z2, z3, z4, z5]) rfl ⟨_, rfl, hv.put6 r1 (.inr ⟨_, _, rfl, by decide⟩) _ _ _ _ _ _, (((((((k0.trans hk1).set (by simp) _).set (by simp) _).set (by simp) _).set (by simp) _).set (by simp) _).set (by simp) _)⟩
set_option maxHeartbeats 8000000 in
set_option maxRecDepth 100000 in
theorem wr_27 (w : World) : Calls Tryz.prog 31 #[.int .i64 27] w fun e w' => ∃ v, e = .returned v ∧ WrOk w' v 3 76 1 1 [1] ∧ Kept w w' := by
  have r0 := Cells.new w 61 zeroW
  have k0 : Kept w (w.alloc (.cells zeroW 61)) := Kept.alloc (Below.refl _ _) _
  have hC := ex_27 (w.alloc (.cells zeroW 61))
  go_enter Tryz.func31, Tryz.ntmps31
  go_wp2_with (go_at_call 57; refine hC.mono ?_; rintro e w1 ⟨v, rfl, hv, hk1⟩; obtain ⟨sl, c, f, x, y, rfl, hsl⟩ := id hv; have r1 := r0.kept hk1; have d0 := r1.cell 0; have d1 := r1.cell 1; have d2 := r1.cell 2; have d3 := r1.cell 3; have d4 := r1.cell 4; have d5 := r1.cell 5; have g0 := r1.frozen 0; have g1 := r1.frozen 1; have g2 := r1.frozen 2; have g3 := r1.frozen 3; have g4 := r1.frozen 4; have g5 := r1.frozen 5; have lr := r1.lt; simp at d0 d1 d2 d3 d4 d5)
  have z := ((((((r1.set 0 (.int .i64 3)).set 1 (.func (.func 76) #[] #[])).set 2 (.int .i64 1)).set 3 (.int .i64 1)).set 4 (.slice sl 1 c)).set 5 (.func f x y))
  have z0 := z.cell 0; have z1 := z.cell 1; have z2 := z.cell 2; have z3 := z.cell 3; have z4 := z.cell 4; have z5 := z.cell 5
  exact bodyPost_ret (v := .agg #[.int .i64 3, .func (.func 76) #[] #[], .int .i64 1, .int .i64 1, .slice sl 1 c, .func f x y]) (by simp [results, Tryz.results31, go_sem, z0, z1, z2, z3, z4, z5]) rfl ⟨_, rfl, hv.put6 r1 (.inr ⟨_, _, rfl, by decide⟩) _ _ _ _ _ _, (((((((k0.trans hk1).set (by simp) _).set (by simp) _).set (by simp) _).set (by simp) _).set (by simp) _).set (by simp) _)⟩
end Go.Proofs.YtefdlnomkojckaaGreatDoor
