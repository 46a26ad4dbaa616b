/-
  The contracts of chapter 13's writers of exprs, op by op (genWr.py).
  Chapter 13's table of writers: the contract of writerOf at every op, and of what asks for S and N (genWd.py).
  The contracts of chapter 13's stands and NodeOk (genWd.py).
-/
import Derived.Deep.RegionWith
import Derived.Test.YtlinbkgeahgkjaaGreatDoorGrpWr
import Derived.Test.YtlinbkgeahgkjaaGreatDoorZNodX
namespace Go.Proofs.YtlinbkgeahgkjaaGreatDoor
open Go.RowKit
set_option linter.unusedSimpArgs false

/-- The value is stored where a zero writer lies. -/
theorem WrOk.put6 {W : World} {R : Nat} {ty : TypeId} {v : Value} {stn : Nat} {own : FuncId} {least most : Int} {L : List Int} (h : WrOk W v stn own least most L) (hR : Cells W R ty zeroW) (hL : L = [] ∨ ∃ x r, L = x :: r ∧ x ≠ 0) (u0 u1 u2 u3 u4 u5 : Value) :
    WrOk ((((((W.setCell ⟨R, 0, none⟩ u0).setCell ⟨R, 1, none⟩ u1).setCell ⟨R, 2, none⟩ u2).setCell ⟨R, 3, none⟩ u3).setCell ⟨R, 4, none⟩ u4).setCell ⟨R, 5, none⟩ u5) v stn own least most L := by
  obtain ⟨sl, c, f, x, y, e, h | ⟨g, e2, h⟩⟩ := h
  · exact ⟨sl, c, f, x, y, e, .inl h⟩
  · rcases hL with hL | ⟨a, r, hL, ha⟩
    · exact ⟨sl, c, f, x, y, e, .inl hL⟩
    · have hne : R ≠ g := by
        rintro rfl
        have h0 := h 0 a (by rw [hL]; rfl)
        rw [hR.cell 0] at h0
        simp [zeroW] at h0
        exact ha h0.symm
      have ho : ∀ (W : World) (i j : Nat) (u : Value), (W.setCell ⟨R, i, none⟩ u).cell? ⟨g, j, none⟩ = W.cell? ⟨g, j, none⟩ := fun W i j u => World.cell?_setCell_other _ _ _ _ (by intro e; have := congrArg Addr.block e; simp at this; exact hne this)
      exact ⟨sl, c, f, x, y, e, .inr ⟨g, e2, fun j z hz => by rw [ho, ho, ho, ho, ho, ho]; exact h j z hz⟩⟩
set_option maxHeartbeats 8000000 in
set_option maxRecDepth 100000 in
theorem wordWriter_ok (w : World) (t : ByteArray) : Calls Tryz.prog 76 #[.string t] w fun e w' => ∃ v, e = .returned v ∧ WrOk w' v 3 50 0 0 [] ∧ Kept w w' := by
  have r0 := Cells.new (w.alloc (.cells #[.string t] 9)) 76 zeroW
  simp only [World.size_alloc] at r0
  have k0 : Kept w ((w.alloc (.cells #[.string t] 9)).alloc (.cells zeroW 76)) := (Kept.alloc (Below.refl _ _) _).alloc _
  have hC := kidsAs_ok ((w.alloc (.cells #[.string t] 9)).alloc (.cells zeroW 76)) none 0 0
  go_enter Tryz.func76, Tryz.ntmps76
  go_wp2_with (go_at_call 54; refine hC.mono ?_; rintro e w1 ⟨rfl, hk1⟩; have r1 := r0.kept hk1; have d0 := r1.cell 0; have d1 := r1.cell 1; have d2 := r1.cell 2; have d3 := r1.cell 3; have d4 := r1.cell 4; have d5 := r1.cell 5; have g0 := r1.frozen 0; have g1 := r1.frozen 1; have g2 := r1.frozen 2; have g3 := r1.frozen 3; have g4 := r1.frozen 4; have g5 := r1.frozen 5; have lr := r1.lt; simp at d0 d1 d2 d3 d4 d5)
  have z := ((((((r1.set 0 (.int .i64 3)).set 1 (.func (.func 50) #[] #[])).set 2 (.int .i64 0)).set 3 (.int .i64 0)).set 4 (.slice none 0 0)).set 5 (.func (.func 97) #[] #[.pointer (some ⟨w.heap.size, 0, none⟩)]))
  have z0 := z.cell 0; have z1 := z.cell 1; have z2 := z.cell 2; have z3 := z.cell 3; have z4 := z.cell 4; have z5 := z.cell 5
  exact bodyPost_ret (v := .agg #[.int .i64 3, .func (.func 50) #[] #[], .int .i64 0, .int .i64 0, .slice none 0 0, .func (.func 97) #[] #[.pointer (some ⟨w.heap.size, 0, none⟩)]]) (by simp [results, Tryz.results76, go_sem, z0, z1, z2, z3, z4, z5]) rfl ⟨_, rfl, ⟨_, _, _, _, _, rfl, .inl rfl⟩, (((((((k0.trans hk1).set (by simp) _).set (by simp) _).set (by simp) _).set (by simp) _).set (by simp) _).set (by simp) _)⟩
set_option maxHeartbeats 8000000 in
set_option maxRecDepth 100000 in
theorem signWriter_ok (w : World) (t : ByteArray) : Calls Tryz.prog 79 #[.string t] w fun e w' => ∃ v, e = .returned v ∧ WrOk w' v 3 50 2 2 [3, 3] ∧ Kept w w' := by
  have r0 := Cells.new (w.alloc (.cells #[.string t] 9)) 76 zeroW
  simp only [World.size_alloc] at r0
  have k0 : Kept w ((w.alloc (.cells #[.string t] 9)).alloc (.cells zeroW 76)) := (Kept.alloc (Below.refl _ _) _).alloc _
  have s0 := Cells.new ((w.alloc (.cells #[.string t] 9)).alloc (.cells zeroW 76)) 53 #[.int .i64 3, .int .i64 3]
  simp only [World.size_alloc] at s0
  have r0 := r0.alloc (.cells #[.int .i64 3, .int .i64 3] 53)
  have k0 := k0.alloc (.cells #[.int .i64 3, .int .i64 3] 53)
  have hC := kidsAs_ok (((w.alloc (.cells #[.string t] 9)).alloc (.cells zeroW 76)).alloc (.cells #[.int .i64 3, .int .i64 3] 53)) (some ⟨w.heap.size + 1 + 1, 0, none⟩) 2 2
  go_enter Tryz.func79, Tryz.ntmps79
  go_wp2_with (go_at_call 54; refine hC.mono ?_; rintro e w1 ⟨rfl, hk1⟩; have s1 := s0.kept hk1; have r1 := r0.kept hk1; have d0 := r1.cell 0; have d1 := r1.cell 1; have d2 := r1.cell 2; have d3 := r1.cell 3; have d4 := r1.cell 4; have d5 := r1.cell 5; have g0 := r1.frozen 0; have g1 := r1.frozen 1; have g2 := r1.frozen 2; have g3 := r1.frozen 3; have g4 := r1.frozen 4; have g5 := r1.frozen 5; have lr := r1.lt; simp at d0 d1 d2 d3 d4 d5)
  have z := ((((((r1.set 0 (.int .i64 3)).set 1 (.func (.func 50) #[] #[])).set 2 (.int .i64 2)).set 3 (.int .i64 2)).set 4 (.slice (some ⟨w.heap.size + 1 + 1, 0, none⟩) 2 2)).set 5 (.func (.func 99) #[] #[.pointer (some ⟨w.heap.size, 0, none⟩)]))
  have z0 := z.cell 0; have z1 := z.cell 1; have z2 := z.cell 2; have z3 := z.cell 3; have z4 := z.cell 4; have z5 := z.cell 5
  exact bodyPost_ret (v := .agg #[.int .i64 3, .func (.func 50) #[] #[], .int .i64 2, .int .i64 2, .slice (some ⟨w.heap.size + 1 + 1, 0, none⟩) 2 2, .func (.func 99) #[] #[.pointer (some ⟨w.heap.size, 0, none⟩)]]) (by simp [results, Tryz.results79, go_sem, z0, z1, z2, z3, z4, z5]) rfl ⟨_, rfl, ⟨_, _, _, _, _, rfl, .inr ⟨_, rfl, fun j x hx => (((((((s1.other (p := ⟨w.heap.size + 1, 0, none⟩) (by simp) _).other (p := ⟨w.heap.size + 1, 1, none⟩) (by simp) _).other (p := ⟨w.heap.size + 1, 2, none⟩) (by simp) _).other (p := ⟨w.heap.size + 1, 3, none⟩) (by simp) _).other (p := ⟨w.heap.size + 1, 4, none⟩) (by simp) _).other (p := ⟨w.heap.size + 1, 5, none⟩) (by simp) _).cell j).trans (by match j, hx with | 0, h => simp at h; subst h; rfl | 1, h => simp at h; subst h; rfl | n + 2, h => simp at h)⟩⟩, (((((((k0.trans hk1).set (by simp) _).set (by simp) _).set (by simp) _).set (by simp) _).set (by simp) _).set (by simp) _)⟩
set_option maxHeartbeats 8000000 in
set_option maxRecDepth 100000 in
theorem ex_10 (w : World) : Calls Tryz.prog 65 #[.int .i64 10] w fun e w' => ∃ v, e = .returned v ∧ WrOk w' v 3 72 0 0 [] ∧ Kept w w' := by
  have r0 := Cells.new w 76 zeroW
  have k0 : Kept w (w.alloc (.cells zeroW 76)) := Kept.alloc (Below.refl _ _) _
  have hC := kidsAs_ok (w.alloc (.cells zeroW 76)) none 0 0
  go_enter Tryz.func65, Tryz.ntmps65
  go_wp2_with (go_at_call 54; refine hC.mono ?_; rintro e w1 ⟨rfl, hk1⟩; have r1 := r0.kept hk1; have d0 := r1.cell 0; have d1 := r1.cell 1; have d2 := r1.cell 2; have d3 := r1.cell 3; have d4 := r1.cell 4; have d5 := r1.cell 5; have g0 := r1.frozen 0; have g1 := r1.frozen 1; have g2 := r1.frozen 2; have g3 := r1.frozen 3; have g4 := r1.frozen 4; have g5 := r1.frozen 5; have lr := r1.lt; simp at d0 d1 d2 d3 d4 d5)
  have z := ((((((r1.set 0 (.int .i64 3)).set 1 (.func (.func 72) #[] #[])).set 2 (.int .i64 0)).set 3 (.int .i64 0)).set 4 (.slice none 0 0)).set 5 (.func (.func 73) #[] #[]))
  have z0 := z.cell 0; have z1 := z.cell 1; have z2 := z.cell 2; have z3 := z.cell 3; have z4 := z.cell 4; have z5 := z.cell 5
  exact bodyPost_ret (v := .agg #[.int .i64 3, .func (.func 72) #[] #[], .int .i64 0, .int .i64 0, .slice none 0 0, .func (.func 73) #[] #[]]) (by simp [results, Tryz.results65, go_sem, z0, z1, z2, z3, z4, z5]) rfl ⟨_, rfl, ⟨_, _, _, _, _, rfl, .inl rfl⟩, (((((((k0.trans hk1).set (by simp) _).set (by simp) _).set (by simp) _).set (by simp) _).set (by simp) _).set (by simp) _)⟩
set_option maxHeartbeats 8000000 in
set_option maxRecDepth 100000 in
theorem ex_11 (w : World) : Calls Tryz.prog 65 #[.int .i64 11] w fun e w' => ∃ v, e = .returned v ∧ WrOk w' v 3 74 0 0 [] ∧ Kept w w' := by
  have r0 := Cells.new w 76 zeroW
  have k0 : Kept w (w.alloc (.cells zeroW 76)) := Kept.alloc (Below.refl _ _) _
  have hC := kidsAs_ok (w.alloc (.cells zeroW 76)) none 0 0
  go_enter Tryz.func65, Tryz.ntmps65
  go_wp2_with (go_at_call 54; refine hC.mono ?_; rintro e w1 ⟨rfl, hk1⟩; have r1 := r0.kept hk1; have d0 := r1.cell 0; have d1 := r1.cell 1; have d2 := r1.cell 2; have d3 := r1.cell 3; have d4 := r1.cell 4; have d5 := r1.cell 5; have g0 := r1.frozen 0; have g1 := r1.frozen 1; have g2 := r1.frozen 2; have g3 := r1.frozen 3; have g4 := r1.frozen 4; have g5 := r1.frozen 5; have lr := r1.lt; simp at d0 d1 d2 d3 d4 d5)
  have z := ((((((r1.set 0 (.int .i64 3)).set 1 (.func (.func 74) #[] #[])).set 2 (.int .i64 0)).set 3 (.int .i64 0)).set 4 (.slice none 0 0)).set 5 (.func (.func 75) #[] #[]))
  have z0 := z.cell 0; have z1 := z.cell 1; have z2 := z.cell 2; have z3 := z.cell 3; have z4 := z.cell 4; have z5 := z.cell 5
  exact bodyPost_ret (v := .agg #[.int .i64 3, .func (.func 74) #[] #[], .int .i64 0, .int .i64 0, .slice none 0 0, .func (.func 75) #[] #[]]) (by simp [results, Tryz.results65, go_sem, z0, z1, z2, z3, z4, z5]) rfl ⟨_, rfl, ⟨_, _, _, _, _, rfl, .inl rfl⟩, (((((((k0.trans hk1).set (by simp) _).set (by simp) _).set (by simp) _).set (by simp) _).set (by simp) _).set (by simp) _)⟩
set_option maxHeartbeats 8000000 in
set_option maxRecDepth 100000 in
theorem ex_16 (w : World) : Calls Tryz.prog 65 #[.int .i64 16] w fun e w' => ∃ v, e = .returned v ∧ WrOk w' v 3 53 0 0 [] ∧ Kept w w' := by
  have r0 := Cells.new w 76 zeroW
  have k0 : Kept w (w.alloc (.cells zeroW 76)) := Kept.alloc (Below.refl _ _) _
  have hC := kidsAs_ok (w.alloc (.cells zeroW 76)) none 0 0
  go_enter Tryz.func65, Tryz.ntmps65
  go_wp2_with (go_at_call 54; refine hC.mono ?_; rintro e w1 ⟨rfl, hk1⟩; have r1 := r0.kept hk1; have d0 := r1.cell 0; have d1 := r1.cell 1; have d2 := r1.cell 2; have d3 := r1.cell 3; have d4 := r1.cell 4; have d5 := r1.cell 5; have g0 := r1.frozen 0; have g1 := r1.frozen 1; have g2 := r1.frozen 2; have g3 := r1.frozen 3; have g4 := r1.frozen 4; have g5 := r1.frozen 5; have lr := r1.lt; simp at d0 d1 d2 d3 d4 d5)
  have z := ((((((r1.set 0 (.int .i64 3)).set 1 (.func (.func 53) #[] #[])).set 2 (.int .i64 0)).set 3 (.int .i64 0)).set 4 (.slice none 0 0)).set 5 (.func (.func 77) #[] #[]))
  have z0 := z.cell 0; have z1 := z.cell 1; have z2 := z.cell 2; have z3 := z.cell 3; have z4 := z.cell 4; have z5 := z.cell 5
  exact bodyPost_ret (v := .agg #[.int .i64 3, .func (.func 53) #[] #[], .int .i64 0, .int .i64 0, .slice none 0 0, .func (.func 77) #[] #[]]) (by simp [results, Tryz.results65, go_sem, z0, z1, z2, z3, z4, z5]) rfl ⟨_, rfl, ⟨_, _, _, _, _, rfl, .inl rfl⟩, (((((((k0.trans hk1).set (by simp) _).set (by simp) _).set (by simp) _).set (by simp) _).set (by simp) _).set (by simp) _)⟩
set_option maxHeartbeats 8000000 in
set_option maxRecDepth 100000 in
theorem ex_17 (w : World) : Calls Tryz.prog 65 #[.int .i64 17] w fun e w' => ∃ v, e = .returned v ∧ WrOk w' v 3 57 1 1 [3] ∧ Kept w w' := by
  have r0 := Cells.new w 76 zeroW
  have k0 : Kept w (w.alloc (.cells zeroW 76)) := Kept.alloc (Below.refl _ _) _
  have s0 := Cells.new (w.alloc (.cells zeroW 76)) 53 #[.int .i64 3]
  simp only [World.size_alloc] at s0
  have r0 := r0.alloc (.cells #[.int .i64 3] 53)
  have k0 : Kept w ((w.alloc (.cells zeroW 76)).alloc (.cells #[.int .i64 3] 53)) := k0.alloc _
  have hC := kidsAs_ok ((w.alloc (.cells zeroW 76)).alloc (.cells #[.int .i64 3] 53)) (some ⟨w.heap.size + 1, 0, none⟩) 1 1
  go_enter Tryz.func65, Tryz.ntmps65
  go_wp2_with (go_at_call 54; refine hC.mono ?_; rintro e w1 ⟨rfl, hk1⟩; have s1 := s0.kept hk1; have r1 := r0.kept hk1; have d0 := r1.cell 0; have d1 := r1.cell 1; have d2 := r1.cell 2; have d3 := r1.cell 3; have d4 := r1.cell 4; have d5 := r1.cell 5; have g0 := r1.frozen 0; have g1 := r1.frozen 1; have g2 := r1.frozen 2; have g3 := r1.frozen 3; have g4 := r1.frozen 4; have g5 := r1.frozen 5; have lr := r1.lt; simp at d0 d1 d2 d3 d4 d5)
  have z := ((((((r1.set 0 (.int .i64 3)).set 1 (.func (.func 57) #[] #[])).set 2 (.int .i64 1)).set 3 (.int .i64 1)).set 4 (.slice (some ⟨w.heap.size + 1, 0, none⟩) 1 1)).set 5 (.func (.func 71) #[] #[]))
  have z0 := z.cell 0; have z1 := z.cell 1; have z2 := z.cell 2; have z3 := z.cell 3; have z4 := z.cell 4; have z5 := z.cell 5
  exact bodyPost_ret (v := .agg #[.int .i64 3, .func (.func 57) #[] #[], .int .i64 1, .int .i64 1, .slice (some ⟨w.heap.size + 1, 0, none⟩) 1 1, .func (.func 71) #[] #[]]) (by simp [results, Tryz.results65, go_sem, z0, z1, z2, z3, z4, z5]) rfl ⟨_, rfl, ⟨_, _, _, _, _, rfl, .inr ⟨_, rfl, fun j x hx => (((((((s1.other (p := ⟨w.heap.size, 0, none⟩) (by simp) _).other (p := ⟨w.heap.size, 1, none⟩) (by simp) _).other (p := ⟨w.heap.size, 2, none⟩) (by simp) _).other (p := ⟨w.heap.size, 3, none⟩) (by simp) _).other (p := ⟨w.heap.size, 4, none⟩) (by simp) _).other (p := ⟨w.heap.size, 5, none⟩) (by simp) _).cell j).trans (by match j, hx with | 0, h => simp at h; subst h; rfl | n + 1, h => simp at h)⟩⟩, (((((((k0.trans hk1).set (by simp) _).set (by simp) _).set (by simp) _).set (by simp) _).set (by simp) _).set (by simp) _)⟩
set_option maxHeartbeats 8000000 in
set_option maxRecDepth 100000 in
theorem ex_24 (w : World) : Calls Tryz.prog 65 #[.int .i64 24] w fun e w' => ∃ v, e = .returned v ∧ WrOk w' v 3 50 1 1 [3] ∧ Kept w w' := by
  have r0 := Cells.new w 76 zeroW
  have k0 : Kept w (w.alloc (.cells zeroW 76)) := Kept.alloc (Below.refl _ _) _
  have s0 := Cells.new (w.alloc (.cells zeroW 76)) 53 #[.int .i64 3]
  simp only [World.size_alloc] at s0
  have r0 := r0.alloc (.cells #[.int .i64 3] 53)
  have k0 : Kept w ((w.alloc (.cells zeroW 76)).alloc (.cells #[.int .i64 3] 53)) := k0.alloc _
  have hC := kidsAs_ok ((w.alloc (.cells zeroW 76)).alloc (.cells #[.int .i64 3] 53)) (some ⟨w.heap.size + 1, 0, none⟩) 1 1
  go_enter Tryz.func65, Tryz.ntmps65
  go_wp2_with (go_at_call 54; refine hC.mono ?_; rintro e w1 ⟨rfl, hk1⟩; have s1 := s0.kept hk1; have r1 := r0.kept hk1; have d0 := r1.cell 0; have d1 := r1.cell 1; have d2 := r1.cell 2; have d3 := r1.cell 3; have d4 := r1.cell 4; have d5 := r1.cell 5; have g0 := r1.frozen 0; have g1 := r1.frozen 1; have g2 := r1.frozen 2; have g3 := r1.frozen 3; have g4 := r1.frozen 4; have g5 := r1.frozen 5; have lr := r1.lt; simp at d0 d1 d2 d3 d4 d5)
  have z := ((((((r1.set 0 (.int .i64 3)).set 1 (.func (.func 50) #[] #[])).set 2 (.int .i64 1)).set 3 (.int .i64 1)).set 4 (.slice (some ⟨w.heap.size + 1, 0, none⟩) 1 1)).set 5 (.func (.func 80) #[] #[]))
  have z0 := z.cell 0; have z1 := z.cell 1; have z2 := z.cell 2; have z3 := z.cell 3; have z4 := z.cell 4; have z5 := z.cell 5
  exact bodyPost_ret (v := .agg #[.int .i64 3, .func (.func 50) #[] #[], .int .i64 1, .int .i64 1, .slice (some ⟨w.heap.size + 1, 0, none⟩) 1 1, .func (.func 80) #[] #[]]) (by simp [results, Tryz.results65, go_sem, z0, z1, z2, z3, z4, z5]) rfl ⟨_, rfl, ⟨_, _, _, _, _, rfl, .inr ⟨_, rfl, fun j x hx => (((((((s1.other (p := ⟨w.heap.size, 0, none⟩) (by simp) _).other (p := ⟨w.heap.size, 1, none⟩) (by simp) _).other (p := ⟨w.heap.size, 2, none⟩) (by simp) _).other (p := ⟨w.heap.size, 3, none⟩) (by simp) _).other (p := ⟨w.heap.size, 4, none⟩) (by simp) _).other (p := ⟨w.heap.size, 5, none⟩) (by simp) _).cell j).trans (by match j, hx with | 0, h => simp at h; subst h; rfl | n + 1, h => simp at h)⟩⟩, (((((((k0.trans hk1).set (by simp) _).set (by simp) _).set (by simp) _).set (by simp) _).set (by simp) _).set (by simp) _)⟩
set_option maxHeartbeats 8000000 in
set_option maxRecDepth 100000 in
theorem ex_27 (w : World) : Calls Tryz.prog 65 #[.int .i64 27] w fun e w' => ∃ v, e = .returned v ∧ WrOk w' v 3 82 1 1 [1] ∧ Kept w w' := by
  have r0 := Cells.new w 76 zeroW
  have k0 : Kept w (w.alloc (.cells zeroW 76)) := Kept.alloc (Below.refl _ _) _
  have s0 := Cells.new (w.alloc (.cells zeroW 76)) 53 #[.int .i64 1]
  simp only [World.size_alloc] at s0
  have r0 := r0.alloc (.cells #[.int .i64 1] 53)
  have k0 : Kept w ((w.alloc (.cells zeroW 76)).alloc (.cells #[.int .i64 1] 53)) := k0.alloc _
  have hC := kidsAs_ok ((w.alloc (.cells zeroW 76)).alloc (.cells #[.int .i64 1] 53)) (some ⟨w.heap.size + 1, 0, none⟩) 1 1
  go_enter Tryz.func65, Tryz.ntmps65
  go_wp2_with (go_at_call 54; refine hC.mono ?_; rintro e w1 ⟨rfl, hk1⟩; have s1 := s0.kept hk1; have r1 := r0.kept hk1; have d0 := r1.cell 0; have d1 := r1.cell 1; have d2 := r1.cell 2; have d3 := r1.cell 3; have d4 := r1.cell 4; have d5 := r1.cell 5; have g0 := r1.frozen 0; have g1 := r1.frozen 1; have g2 := r1.frozen 2; have g3 := r1.frozen 3; have g4 := r1.frozen 4; have g5 := r1.frozen 5; have lr := r1.lt; simp at d0 d1 d2 d3 d4 d5)
  have z := ((((((r1.set 0 (.int .i64 3)).set 1 (.func (.func 82) #[] #[])).set 2 (.int .i64 1)).set 3 (.int .i64 1)).set 4 (.slice (some ⟨w.heap.size + 1, 0, none⟩) 1 1)).set 5 (.func (.func 83) #[] #[]))
  have z0 := z.cell 0; have z1 := z.cell 1; have z2 := z.cell 2; have z3 := z.cell 3; have z4 := z.cell 4; have z5 := z.cell 5
  exact bodyPost_ret (v := .agg #[.int .i64 3, .func (.func 82) #[] #[], .int .i64 1, .int .i64 1, .slice (some ⟨w.heap.size + 1, 0, none⟩) 1 1, .func (.func 83) #[] #[]]) (by simp [results, Tryz.results65, go_sem, z0, z1, z2, z3, z4, z5]) rfl ⟨_, rfl, ⟨_, _, _, _, _, rfl, .inr ⟨_, rfl, fun j x hx => (((((((s1.other (p := ⟨w.heap.size, 0, none⟩) (by simp) _).other (p := ⟨w.heap.size, 1, none⟩) (by simp) _).other (p := ⟨w.heap.size, 2, none⟩) (by simp) _).other (p := ⟨w.heap.size, 3, none⟩) (by simp) _).other (p := ⟨w.heap.size, 4, none⟩) (by simp) _).other (p := ⟨w.heap.size, 5, none⟩) (by simp) _).cell j).trans (by match j, hx with | 0, h => simp at h; subst h; rfl | n + 1, h => simp at h)⟩⟩, (((((((k0.trans hk1).set (by simp) _).set (by simp) _).set (by simp) _).set (by simp) _).set (by simp) _).set (by simp) _)⟩
set_option maxHeartbeats 8000000 in
set_option maxRecDepth 100000 in
theorem ex_18 (w : World) : Calls Tryz.prog 65 #[.int .i64 18] w fun e w' => ∃ v, e = .returned v ∧ WrOk w' v 3 50 1 200 [3] ∧ Kept w w' := by
  have r0 := Cells.new w 76 zeroW
  have k0 : Kept w (w.alloc (.cells zeroW 76)) := Kept.alloc (Below.refl _ _) _
  have hC := atLeast_ok (w.alloc (.cells zeroW 76)) 1 3
  go_enter Tryz.func65, Tryz.ntmps65
  go_wp2_with (go_at_call 51; refine hC.mono ?_; rintro e w1 ⟨g, rfl, hg, hk1⟩; have r1 := r0.kept hk1; have d0 := r1.cell 0; have d1 := r1.cell 1; have d2 := r1.cell 2; have d3 := r1.cell 3; have d4 := r1.cell 4; have d5 := r1.cell 5; have g0 := r1.frozen 0; have g1 := r1.frozen 1; have g2 := r1.frozen 2; have g3 := r1.frozen 3; have g4 := r1.frozen 4; have g5 := r1.frozen 5; have lr := r1.lt; simp at d0 d1 d2 d3 d4 d5)
  have hgne : g ≠ w.heap.size := by
    rintro rfl
    rw [d0] at hg
    simp at hg
  have z := ((((((r1.set 0 (.int .i64 3)).set 1 (.func (.func 50) #[] #[])).set 2 (.int .i64 1)).set 3 (.int .i64 200)).set 4 (.slice (some ⟨g, 0, none⟩) 1 1)).set 5 (.func (.func 78) #[] #[]))
  have z0 := z.cell 0; have z1 := z.cell 1; have z2 := z.cell 2; have z3 := z.cell 3; have z4 := z.cell 4; have z5 := z.cell 5
  exact bodyPost_ret (v := .agg #[.int .i64 3, .func (.func 50) #[] #[], .int .i64 1, .int .i64 200, .slice (some ⟨g, 0, none⟩) 1 1, .func (.func 78) #[] #[]]) (by simp [results, Tryz.results65, go_sem, z0, z1, z2, z3, z4, z5]) rfl ⟨_, rfl, ⟨_, _, _, _, _, rfl, .inr ⟨_, rfl, fun j x hx => by match j, hx with | 0, h => simp at h; subst h; exact (World.cell?_setCell_other _ _ _ _ (by intro e; have := congrArg Addr.block e; simp at this; exact hgne this.symm)).trans ((World.cell?_setCell_other _ _ _ _ (by intro e; have := congrArg Addr.block e; simp at this; exact hgne this.symm)).trans ((World.cell?_setCell_other _ _ _ _ (by intro e; have := congrArg Addr.block e; simp at this; exact hgne this.symm)).trans ((World.cell?_setCell_other _ _ _ _ (by intro e; have := congrArg Addr.block e; simp at this; exact hgne this.symm)).trans ((World.cell?_setCell_other _ _ _ _ (by intro e; have := congrArg Addr.block e; simp at this; exact hgne this.symm)).trans ((World.cell?_setCell_other _ _ _ _ (by intro e; have := congrArg Addr.block e; simp at this; exact hgne this.symm)).trans (hg)))))) | n + 1, h => simp at h⟩⟩, (((((((k0.trans hk1).set (by simp) _).set (by simp) _).set (by simp) _).set (by simp) _).set (by simp) _).set (by simp) _)⟩
set_option maxHeartbeats 8000000 in
set_option maxRecDepth 100000 in
theorem ex_25 (w : World) : Calls Tryz.prog 65 #[.int .i64 25] w fun e w' => ∃ v, e = .returned v ∧ WrOk w' v 3 50 0 200 [4] ∧ Kept w w' := by
  have r0 := Cells.new w 76 zeroW
  have k0 : Kept w (w.alloc (.cells zeroW 76)) := Kept.alloc (Below.refl _ _) _
  have hC := atLeast_ok (w.alloc (.cells zeroW 76)) 0 4
  go_enter Tryz.func65, Tryz.ntmps65
  go_wp2_with (go_at_call 51; refine hC.mono ?_; rintro e w1 ⟨g, rfl, hg, hk1⟩; have r1 := r0.kept hk1; have d0 := r1.cell 0; have d1 := r1.cell 1; have d2 := r1.cell 2; have d3 := r1.cell 3; have d4 := r1.cell 4; have d5 := r1.cell 5; have g0 := r1.frozen 0; have g1 := r1.frozen 1; have g2 := r1.frozen 2; have g3 := r1.frozen 3; have g4 := r1.frozen 4; have g5 := r1.frozen 5; have lr := r1.lt; simp at d0 d1 d2 d3 d4 d5)
  have hgne : g ≠ w.heap.size := by
    rintro rfl
    rw [d0] at hg
    simp at hg
  have z := ((((((r1.set 0 (.int .i64 3)).set 1 (.func (.func 50) #[] #[])).set 2 (.int .i64 0)).set 3 (.int .i64 200)).set 4 (.slice (some ⟨g, 0, none⟩) 1 1)).set 5 (.func (.func 81) #[] #[]))
  have z0 := z.cell 0; have z1 := z.cell 1; have z2 := z.cell 2; have z3 := z.cell 3; have z4 := z.cell 4; have z5 := z.cell 5
  exact bodyPost_ret (v := .agg #[.int .i64 3, .func (.func 50) #[] #[], .int .i64 0, .int .i64 200, .slice (some ⟨g, 0, none⟩) 1 1, .func (.func 81) #[] #[]]) (by simp [results, Tryz.results65, go_sem, z0, z1, z2, z3, z4, z5]) rfl ⟨_, rfl, ⟨_, _, _, _, _, rfl, .inr ⟨_, rfl, fun j x hx => by match j, hx with | 0, h => simp at h; subst h; exact (World.cell?_setCell_other _ _ _ _ (by intro e; have := congrArg Addr.block e; simp at this; exact hgne this.symm)).trans ((World.cell?_setCell_other _ _ _ _ (by intro e; have := congrArg Addr.block e; simp at this; exact hgne this.symm)).trans ((World.cell?_setCell_other _ _ _ _ (by intro e; have := congrArg Addr.block e; simp at this; exact hgne this.symm)).trans ((World.cell?_setCell_other _ _ _ _ (by intro e; have := congrArg Addr.block e; simp at this; exact hgne this.symm)).trans ((World.cell?_setCell_other _ _ _ _ (by intro e; have := congrArg Addr.block e; simp at this; exact hgne this.symm)).trans ((World.cell?_setCell_other _ _ _ _ (by intro e; have := congrArg Addr.block e; simp at this; exact hgne this.symm)).trans (hg)))))) | n + 1, h => simp at h⟩⟩, (((((((k0.trans hk1).set (by simp) _).set (by simp) _).set (by simp) _).set (by simp) _).set (by simp) _).set (by simp) _)⟩
set_option maxHeartbeats 8000000 in
set_option maxRecDepth 100000 in
theorem ex_12 (w : World) : Calls Tryz.prog 65 #[.int .i64 12] w fun e w' => ∃ v, e = .returned v ∧ WrOk w' v 3 50 0 0 [] ∧ Kept w w' := by
  have r0 := Cells.new w 76 zeroW
  have k0 : Kept w (w.alloc (.cells zeroW 76)) := Kept.alloc (Below.refl _ _) _
  have hC := wordWriter_ok (w.alloc (.cells zeroW 76)) { data := #[116, 114, 117, 101] }
  go_enter Tryz.func65, Tryz.ntmps65
  go_wp2_with (go_at_call 76; refine hC.mono ?_; rintro e w1 ⟨v, rfl, hv, hk1⟩; obtain ⟨sl, c, f, x, y, rfl, hsl⟩ := id hv; have r1 := r0.kept hk1; have d0 := r1.cell 0; have d1 := r1.cell 1; have d2 := r1.cell 2; have d3 := r1.cell 3; have d4 := r1.cell 4; have d5 := r1.cell 5; have g0 := r1.frozen 0; have g1 := r1.frozen 1; have g2 := r1.frozen 2; have g3 := r1.frozen 3; have g4 := r1.frozen 4; have g5 := r1.frozen 5; have lr := r1.lt; simp at d0 d1 d2 d3 d4 d5)
  have z := ((((((r1.set 0 (.int .i64 3)).set 1 (.func (.func 50) #[] #[])).set 2 (.int .i64 0)).set 3 (.int .i64 0)).set 4 (.slice sl 0 c)).set 5 (.func f x y))
  have z0 := z.cell 0; have z1 := z.cell 1; have z2 := z.cell 2; have z3 := z.cell 3; have z4 := z.cell 4; have z5 := z.cell 5
  exact bodyPost_ret (v := .agg #[.int .i64 3, .func (.func 50) #[] #[], .int .i64 0, .int .i64 0, .slice sl 0 c, .func f x y]) (by simp [results, Tryz.results65, go_sem, z0, z1, z2, z3, z4, z5]) rfl ⟨_, rfl, hv.put6 r1 (.inl rfl) _ _ _ _ _ _, (((((((k0.trans hk1).set (by simp) _).set (by simp) _).set (by simp) _).set (by simp) _).set (by simp) _).set (by simp) _)⟩
set_option maxHeartbeats 8000000 in
set_option maxRecDepth 100000 in
theorem ex_13 (w : World) : Calls Tryz.prog 65 #[.int .i64 13] w fun e w' => ∃ v, e = .returned v ∧ WrOk w' v 3 50 0 0 [] ∧ Kept w w' := by
  have r0 := Cells.new w 76 zeroW
  have k0 : Kept w (w.alloc (.cells zeroW 76)) := Kept.alloc (Below.refl _ _) _
  have hC := wordWriter_ok (w.alloc (.cells zeroW 76)) { data := #[102, 97, 108, 115, 101] }
  go_enter Tryz.func65, Tryz.ntmps65
  go_wp2_with (go_at_call 76; refine hC.mono ?_; rintro e w1 ⟨v, rfl, hv, hk1⟩; obtain ⟨sl, c, f, x, y, rfl, hsl⟩ := id hv; have r1 := r0.kept hk1; have d0 := r1.cell 0; have d1 := r1.cell 1; have d2 := r1.cell 2; have d3 := r1.cell 3; have d4 := r1.cell 4; have d5 := r1.cell 5; have g0 := r1.frozen 0; have g1 := r1.frozen 1; have g2 := r1.frozen 2; have g3 := r1.frozen 3; have g4 := r1.frozen 4; have g5 := r1.frozen 5; have lr := r1.lt; simp at d0 d1 d2 d3 d4 d5)
  have z := ((((((r1.set 0 (.int .i64 3)).set 1 (.func (.func 50) #[] #[])).set 2 (.int .i64 0)).set 3 (.int .i64 0)).set 4 (.slice sl 0 c)).set 5 (.func f x y))
  have z0 := z.cell 0; have z1 := z.cell 1; have z2 := z.cell 2; have z3 := z.cell 3; have z4 := z.cell 4; have z5 := z.cell 5
  exact bodyPost_ret (v := .agg #[.int .i64 3, .func (.func 50) #[] #[], .int .i64 0, .int .i64 0, .slice sl 0 c, .func f x y]) (by simp [results, Tryz.results65, go_sem, z0, z1, z2, z3, z4, z5]) rfl ⟨_, rfl, hv.put6 r1 (.inl rfl) _ _ _ _ _ _, (((((((k0.trans hk1).set (by simp) _).set (by simp) _).set (by simp) _).set (by simp) _).set (by simp) _).set (by simp) _)⟩
set_option maxHeartbeats 8000000 in
set_option maxRecDepth 100000 in
theorem ex_14 (w : World) : Calls Tryz.prog 65 #[.int .i64 14] w fun e w' => ∃ v, e = .returned v ∧ WrOk w' v 3 50 0 0 [] ∧ Kept w w' := by
  have r0 := Cells.new w 76 zeroW
  have k0 : Kept w (w.alloc (.cells zeroW 76)) := Kept.alloc (Below.refl _ _) _
  have hC := wordWriter_ok (w.alloc (.cells zeroW 76)) { data := #[110, 117, 108, 108] }
  go_enter Tryz.func65, Tryz.ntmps65
  go_wp2_with (go_at_call 76; refine hC.mono ?_; rintro e w1 ⟨v, rfl, hv, hk1⟩; obtain ⟨sl, c, f, x, y, rfl, hsl⟩ := id hv; have r1 := r0.kept hk1; have d0 := r1.cell 0; have d1 := r1.cell 1; have d2 := r1.cell 2; have d3 := r1.cell 3; have d4 := r1.cell 4; have d5 := r1.cell 5; have g0 := r1.frozen 0; have g1 := r1.frozen 1; have g2 := r1.frozen 2; have g3 := r1.frozen 3; have g4 := r1.frozen 4; have g5 := r1.frozen 5; have lr := r1.lt; simp at d0 d1 d2 d3 d4 d5)
  have z := ((((((r1.set 0 (.int .i64 3)).set 1 (.func (.func 50) #[] #[])).set 2 (.int .i64 0)).set 3 (.int .i64 0)).set 4 (.slice sl 0 c)).set 5 (.func f x y))
  have z0 := z.cell 0; have z1 := z.cell 1; have z2 := z.cell 2; have z3 := z.cell 3; have z4 := z.cell 4; have z5 := z.cell 5
  exact bodyPost_ret (v := .agg #[.int .i64 3, .func (.func 50) #[] #[], .int .i64 0, .int .i64 0, .slice sl 0 c, .func f x y]) (by simp [results, Tryz.results65, go_sem, z0, z1, z2, z3, z4, z5]) rfl ⟨_, rfl, hv.put6 r1 (.inl rfl) _ _ _ _ _ _, (((((((k0.trans hk1).set (by simp) _).set (by simp) _).set (by simp) _).set (by simp) _).set (by simp) _).set (by simp) _)⟩
set_option maxHeartbeats 8000000 in
set_option maxRecDepth 100000 in
theorem ex_15 (w : World) : Calls Tryz.prog 65 #[.int .i64 15] w fun e w' => ∃ v, e = .returned v ∧ WrOk w' v 3 50 0 0 [] ∧ Kept w w' := by
  have r0 := Cells.new w 76 zeroW
  have k0 : Kept w (w.alloc (.cells zeroW 76)) := Kept.alloc (Below.refl _ _) _
  have hC := wordWriter_ok (w.alloc (.cells zeroW 76)) { data := #[117, 110, 100, 101, 102, 105, 110, 101, 100] }
  go_enter Tryz.func65, Tryz.ntmps65
  go_wp2_with (go_at_call 76; refine hC.mono ?_; rintro e w1 ⟨v, rfl, hv, hk1⟩; obtain ⟨sl, c, f, x, y, rfl, hsl⟩ := id hv; have r1 := r0.kept hk1; have d0 := r1.cell 0; have d1 := r1.cell 1; have d2 := r1.cell 2; have d3 := r1.cell 3; have d4 := r1.cell 4; have d5 := r1.cell 5; have g0 := r1.frozen 0; have g1 := r1.frozen 1; have g2 := r1.frozen 2; have g3 := r1.frozen 3; have g4 := r1.frozen 4; have g5 := r1.frozen 5; have lr := r1.lt; simp at d0 d1 d2 d3 d4 d5)
  have z := ((((((r1.set 0 (.int .i64 3)).set 1 (.func (.func 50) #[] #[])).set 2 (.int .i64 0)).set 3 (.int .i64 0)).set 4 (.slice sl 0 c)).set 5 (.func f x y))
  have z0 := z.cell 0; have z1 := z.cell 1; have z2 := z.cell 2; have z3 := z.cell 3; have z4 := z.cell 4; have z5 := z.cell 5
  exact bodyPost_ret (v := .agg #[.int .i64 3, .func (.func 50) #[] #[], .int .i64 0, .int .i64 0, .slice sl 0 c, .func f x y]) (by simp [results, Tryz.results65, go_sem, z0, z1, z2, z3, z4, z5]) rfl ⟨_, rfl, hv.put6 r1 (.inl rfl) _ _ _ _ _ _, (((((((k0.trans hk1).set (by simp) _).set (by simp) _).set (by simp) _).set (by simp) _).set (by simp) _).set (by simp) _)⟩
set_option maxHeartbeats 8000000 in
set_option maxRecDepth 100000 in
theorem ex_19 (w : World) : Calls Tryz.prog 65 #[.int .i64 19] w fun e w' => ∃ v, e = .returned v ∧ WrOk w' v 3 50 2 2 [3, 3] ∧ Kept w w' := by
  have r0 := Cells.new w 76 zeroW
  have k0 : Kept w (w.alloc (.cells zeroW 76)) := Kept.alloc (Below.refl _ _) _
  have hC := signWriter_ok (w.alloc (.cells zeroW 76)) { data := #[43] }
  go_enter Tryz.func65, Tryz.ntmps65
  go_wp2_with (go_at_call 79; refine hC.mono ?_; rintro e w1 ⟨v, rfl, hv, hk1⟩; obtain ⟨sl, c, f, x, y, rfl, hsl⟩ := id hv; have r1 := r0.kept hk1; have d0 := r1.cell 0; have d1 := r1.cell 1; have d2 := r1.cell 2; have d3 := r1.cell 3; have d4 := r1.cell 4; have d5 := r1.cell 5; have g0 := r1.frozen 0; have g1 := r1.frozen 1; have g2 := r1.frozen 2; have g3 := r1.frozen 3; have g4 := r1.frozen 4; have g5 := r1.frozen 5; have lr := r1.lt; simp at d0 d1 d2 d3 d4 d5)
  have z := ((((((r1.set 0 (.int .i64 3)).set 1 (.func (.func 50) #[] #[])).set 2 (.int .i64 2)).set 3 (.int .i64 2)).set 4 (.slice sl 2 c)).set 5 (.func f x y))
  have z0 := z.cell 0; have z1 := z.cell 1; have z2 := z.cell 2; have z3 := z.cell 3; have z4 := z.cell 4; have z5 := z.cell 5
  exact bodyPost_ret (v := .agg #[.int .i64 3, .func (.func 50) #[] #[], .int .i64 2, .int .i64 2, .slice sl 2 c, .func f x y]) (by simp [results, Tryz.results65, go_sem, z0, z1, z2, z3, z4, z5]) rfl ⟨_, rfl, hv.put6 r1 (.inr ⟨_, _, rfl, by decide⟩) _ _ _ _ _ _, (((((((k0.trans hk1).set (by simp) _).set (by simp) _).set (by simp) _).set (by simp) _).set (by simp) _).set (by simp) _)⟩
set_option maxHeartbeats 8000000 in
set_option maxRecDepth 100000 in
theorem ex_20 (w : World) : Calls Tryz.prog 65 #[.int .i64 20] w fun e w' => ∃ v, e = .returned v ∧ WrOk w' v 3 50 2 2 [3, 3] ∧ Kept w w' := by
  have r0 := Cells.new w 76 zeroW
  have k0 : Kept w (w.alloc (.cells zeroW 76)) := Kept.alloc (Below.refl _ _) _
  have hC := signWriter_ok (w.alloc (.cells zeroW 76)) { data := #[45] }
  go_enter Tryz.func65, Tryz.ntmps65
  go_wp2_with (go_at_call 79; refine hC.mono ?_; rintro e w1 ⟨v, rfl, hv, hk1⟩; obtain ⟨sl, c, f, x, y, rfl, hsl⟩ := id hv; have r1 := r0.kept hk1; have d0 := r1.cell 0; have d1 := r1.cell 1; have d2 := r1.cell 2; have d3 := r1.cell 3; have d4 := r1.cell 4; have d5 := r1.cell 5; have g0 := r1.frozen 0; have g1 := r1.frozen 1; have g2 := r1.frozen 2; have g3 := r1.frozen 3; have g4 := r1.frozen 4; have g5 := r1.frozen 5; have lr := r1.lt; simp at d0 d1 d2 d3 d4 d5)
  have z := ((((((r1.set 0 (.int .i64 3)).set 1 (.func (.func 50) #[] #[])).set 2 (.int .i64 2)).set 3 (.int .i64 2)).set 4 (.slice sl 2 c)).set 5 (.func f x y))
  have z0 := z.cell 0; have z1 := z.cell 1; have z2 := z.cell 2; have z3 := z.cell 3; have z4 := z.cell 4; have z5 := z.cell 5
  exact bodyPost_ret (v := .agg #[.int .i64 3, .func (.func 50) #[] #[], .int .i64 2, .int .i64 2, .slice sl 2 c, .func f x y]) (by simp [results, Tryz.results65, go_sem, z0, z1, z2, z3, z4, z5]) rfl ⟨_, rfl, hv.put6 r1 (.inr ⟨_, _, rfl, by decide⟩) _ _ _ _ _ _, (((((((k0.trans hk1).set (by simp) _).set (by simp) _).set (by simp) _).set (by simp) _).set (by simp) _).set (by simp) _)⟩
set_option maxHeartbeats 8000000 in
set_option maxRecDepth 100000 in
theorem ex_21 (w : World) : Calls Tryz.prog 65 #[.int .i64 21] w fun e w' => ∃ v, e = .returned v ∧ WrOk w' v 3 50 2 2 [3, 3] ∧ Kept w w' := by
  have r0 := Cells.new w 76 zeroW
  have k0 : Kept w (w.alloc (.cells zeroW 76)) := Kept.alloc (Below.refl _ _) _
  have hC := signWriter_ok (w.alloc (.cells zeroW 76)) { data := #[42] }
  go_enter Tryz.func65, Tryz.ntmps65
  go_wp2_with (go_at_call 79; refine hC.mono ?_; rintro e w1 ⟨v, rfl, hv, hk1⟩; obtain ⟨sl, c, f, x, y, rfl, hsl⟩ := id hv; have r1 := r0.kept hk1; have d0 := r1.cell 0; have d1 := r1.cell 1; have d2 := r1.cell 2; have d3 := r1.cell 3; have d4 := r1.cell 4; have d5 := r1.cell 5; have g0 := r1.frozen 0; have g1 := r1.frozen 1; have g2 := r1.frozen 2; have g3 := r1.frozen 3; have g4 := r1.frozen 4; have g5 := r1.frozen 5; have lr := r1.lt; simp at d0 d1 d2 d3 d4 d5)
  have z := ((((((r1.set 0 (.int .i64 3)).set 1 (.func (.func 50) #[] #[])).set 2 (.int .i64 2)).set 3 (.int .i64 2)).set 4 (.slice sl 2 c)).set 5 (.func f x y))
  have z0 := z.cell 0; have z1 := z.cell 1; have z2 := z.cell 2; have z3 := z.cell 3; have z4 := z.cell 4; have z5 := z.cell 5
  exact bodyPost_ret (v := .agg #[.int .i64 3, .func (.func 50) #[] #[], .int .i64 2, .int .i64 2, .slice sl 2 c, .func f x y]) (by simp [results, Tryz.results65, go_sem, z0, z1, z2, z3, z4, z5]) rfl ⟨_, rfl, hv.put6 r1 (.inr ⟨_, _, rfl, by decide⟩) _ _ _ _ _ _, (((((((k0.trans hk1).set (by simp) _).set (by simp) _).set (by simp) _).set (by simp) _).set (by simp) _).set (by simp) _)⟩
set_option maxHeartbeats 8000000 in
set_option maxRecDepth 100000 in
theorem ex_22 (w : World) : Calls Tryz.prog 65 #[.int .i64 22] w fun e w' => ∃ v, e = .returned v ∧ WrOk w' v 3 50 2 2 [3, 3] ∧ Kept w w' := by
  have r0 := Cells.new w 76 zeroW
  have k0 : Kept w (w.alloc (.cells zeroW 76)) := Kept.alloc (Below.refl _ _) _
  have hC := signWriter_ok (w.alloc (.cells zeroW 76)) { data := #[60] }
  go_enter Tryz.func65, Tryz.ntmps65
  go_wp2_with (go_at_call 79; refine hC.mono ?_; rintro e w1 ⟨v, rfl, hv, hk1⟩; obtain ⟨sl, c, f, x, y, rfl, hsl⟩ := id hv; have r1 := r0.kept hk1; have d0 := r1.cell 0; have d1 := r1.cell 1; have d2 := r1.cell 2; have d3 := r1.cell 3; have d4 := r1.cell 4; have d5 := r1.cell 5; have g0 := r1.frozen 0; have g1 := r1.frozen 1; have g2 := r1.frozen 2; have g3 := r1.frozen 3; have g4 := r1.frozen 4; have g5 := r1.frozen 5; have lr := r1.lt; simp at d0 d1 d2 d3 d4 d5)
  have z := ((((((r1.set 0 (.int .i64 3)).set 1 (.func (.func 50) #[] #[])).set 2 (.int .i64 2)).set 3 (.int .i64 2)).set 4 (.slice sl 2 c)).set 5 (.func f x y))
  have z0 := z.cell 0; have z1 := z.cell 1; have z2 := z.cell 2; have z3 := z.cell 3; have z4 := z.cell 4; have z5 := z.cell 5
  exact bodyPost_ret (v := .agg #[.int .i64 3, .func (.func 50) #[] #[], .int .i64 2, .int .i64 2, .slice sl 2 c, .func f x y]) (by simp [results, Tryz.results65, go_sem, z0, z1, z2, z3, z4, z5]) rfl ⟨_, rfl, hv.put6 r1 (.inr ⟨_, _, rfl, by decide⟩) _ _ _ _ _ _, (((((((k0.trans hk1).set (by simp) _).set (by simp) _).set (by simp) _).set (by simp) _).set (by simp) _).set (by simp) _)⟩
set_option maxHeartbeats 8000000 in
set_option maxRecDepth 100000 in
theorem ex_23 (w : World) : Calls Tryz.prog 65 #[.int .i64 23] w fun e w' => ∃ v, e = .returned v ∧ WrOk w' v 3 50 2 2 [3, 3] ∧ Kept w w' := by
  have r0 := Cells.new w 76 zeroW
  have k0 : Kept w (w.alloc (.cells zeroW 76)) := Kept.alloc (Below.refl _ _) _
  have hC := signWriter_ok (w.alloc (.cells zeroW 76)) { data := #[61, 61] }
  go_enter Tryz.func65, Tryz.ntmps65
  go_wp2_with (go_at_call 79; refine hC.mono ?_; rintro e w1 ⟨v, rfl, hv, hk1⟩; obtain ⟨sl, c, f, x, y, rfl, hsl⟩ := id hv; have r1 := r0.kept hk1; have d0 := r1.cell 0; have d1 := r1.cell 1; have d2 := r1.cell 2; have d3 := r1.cell 3; have d4 := r1.cell 4; have d5 := r1.cell 5; have g0 := r1.frozen 0; have g1 := r1.frozen 1; have g2 := r1.frozen 2; have g3 := r1.frozen 3; have g4 := r1.frozen 4; have g5 := r1.frozen 5; have lr := r1.lt; simp at d0 d1 d2 d3 d4 d5)
  have z := ((((((r1.set 0 (.int .i64 3)).set 1 (.func (.func 50) #[] #[])).set 2 (.int .i64 2)).set 3 (.int .i64 2)).set 4 (.slice sl 2 c)).set 5 (.func f x y))
  have z0 := z.cell 0; have z1 := z.cell 1; have z2 := z.cell 2; have z3 := z.cell 3; have z4 := z.cell 4; have z5 := z.cell 5
  exact bodyPost_ret (v := .agg #[.int .i64 3, .func (.func 50) #[] #[], .int .i64 2, .int .i64 2, .slice sl 2 c, .func f x y]) (by simp [results, Tryz.results65, go_sem, z0, z1, z2, z3, z4, z5]) rfl ⟨_, rfl, hv.put6 r1 (.inr ⟨_, _, rfl, by decide⟩) _ _ _ _ _ _, (((((((k0.trans hk1).set (by simp) _).set (by simp) _).set (by simp) _).set (by simp) _).set (by simp) _).set (by simp) _)⟩
set_option maxHeartbeats 8000000 in
set_option maxRecDepth 100000 in
theorem wr_10 (w : World) : Calls Tryz.prog 40 #[.int .i64 10] w fun e w' => ∃ v, e = .returned v ∧ WrOk w' v 3 72 0 0 [] ∧ Kept w w' := by
  have r0 := Cells.new w 76 zeroW
  have k0 : Kept w (w.alloc (.cells zeroW 76)) := Kept.alloc (Below.refl _ _) _
  have hC := ex_10 (w.alloc (.cells zeroW 76))
  go_enter Tryz.func40, Tryz.ntmps40
  go_wp2_with (go_at_call 65; refine hC.mono ?_; rintro e w1 ⟨v, rfl, hv, hk1⟩; obtain ⟨sl, c, f, x, y, rfl, hsl⟩ := id hv; have r1 := r0.kept hk1; have d0 := r1.cell 0; have d1 := r1.cell 1; have d2 := r1.cell 2; have d3 := r1.cell 3; have d4 := r1.cell 4; have d5 := r1.cell 5; have g0 := r1.frozen 0; have g1 := r1.frozen 1; have g2 := r1.frozen 2; have g3 := r1.frozen 3; have g4 := r1.frozen 4; have g5 := r1.frozen 5; have lr := r1.lt; simp at d0 d1 d2 d3 d4 d5)
  have z := ((((((r1.set 0 (.int .i64 3)).set 1 (.func (.func 72) #[] #[])).set 2 (.int .i64 0)).set 3 (.int .i64 0)).set 4 (.slice sl 0 c)).set 5 (.func f x y))
  have z0 := z.cell 0; have z1 := z.cell 1; have z2 := z.cell 2; have z3 := z.cell 3; have z4 := z.cell 4; have z5 := z.cell 5
  exact bodyPost_ret (v := .agg #[.int .i64 3, .func (.func 72) #[] #[], .int .i64 0, .int .i64 0, .slice sl 0 c, .func f x y]) (by simp [results, Tryz.results40, go_sem, z0, z1, z2, z3, z4, z5]) rfl ⟨_, rfl, hv.put6 r1 (.inl rfl) _ _ _ _ _ _, (((((((k0.trans hk1).set (by simp) _).set (by simp) _).set (by simp) _).set (by simp) _).set (by simp) _).set (by simp) _)⟩
set_option maxHeartbeats 8000000 in
set_option maxRecDepth 100000 in
theorem wr_11 (w : World) : Calls Tryz.prog 40 #[.int .i64 11] w fun e w' => ∃ v, e = .returned v ∧ WrOk w' v 3 74 0 0 [] ∧ Kept w w' := by
  have r0 := Cells.new w 76 zeroW
  have k0 : Kept w (w.alloc (.cells zeroW 76)) := Kept.alloc (Below.refl _ _) _
  have hC := ex_11 (w.alloc (.cells zeroW 76))
  go_enter Tryz.func40, Tryz.ntmps40
  go_wp2_with (go_at_call 65; refine hC.mono ?_; rintro e w1 ⟨v, rfl, hv, hk1⟩; obtain ⟨sl, c, f, x, y, rfl, hsl⟩ := id hv; have r1 := r0.kept hk1; have d0 := r1.cell 0; have d1 := r1.cell 1; have d2 := r1.cell 2; have d3 := r1.cell 3; have d4 := r1.cell 4; have d5 := r1.cell 5; have g0 := r1.frozen 0; have g1 := r1.frozen 1; have g2 := r1.frozen 2; have g3 := r1.frozen 3; have g4 := r1.frozen 4; have g5 := r1.frozen 5; have lr := r1.lt; simp at d0 d1 d2 d3 d4 d5)
  have z := ((((((r1.set 0 (.int .i64 3)).set 1 (.func (.func 74) #[] #[])).set 2 (.int .i64 0)).set 3 (.int .i64 0)).set 4 (.slice sl 0 c)).set 5 (.func f x y))
  have z0 := z.cell 0; have z1 := z.cell 1; have z2 := z.cell 2; have z3 := z.cell 3; have z4 := z.cell 4; have z5 := z.cell 5
  exact bodyPost_ret (v := .agg #[.int .i64 3, .func (.func 74) #[] #[], .int .i64 0, .int .i64 0, .slice sl 0 c, .func f x y]) (by simp [results, Tryz.results40, go_sem, z0, z1, z2, z3, z4, z5]) rfl ⟨_, rfl, hv.put6 r1 (.inl rfl) _ _ _ _ _ _, (((((((k0.trans hk1).set (by simp) _).set (by simp) _).set (by simp) _).set (by simp) _).set (by simp) _).set (by simp) _)⟩
set_option maxHeartbeats 8000000 in
set_option maxRecDepth 100000 in
theorem wr_12 (w : World) : Calls Tryz.prog 40 #[.int .i64 12] w fun e w' => ∃ v, e = .returned v ∧ WrOk w' v 3 50 0 0 [] ∧ Kept w w' := by
  have r0 := Cells.new w 76 zeroW
  have k0 : Kept w (w.alloc (.cells zeroW 76)) := Kept.alloc (Below.refl _ _) _
  have hC := ex_12 (w.alloc (.cells zeroW 76))
  go_enter Tryz.func40, Tryz.ntmps40
  go_wp2_with (go_at_call 65; refine hC.mono ?_; rintro e w1 ⟨v, rfl, hv, hk1⟩; obtain ⟨sl, c, f, x, y, rfl, hsl⟩ := id hv; have r1 := r0.kept hk1; have d0 := r1.cell 0; have d1 := r1.cell 1; have d2 := r1.cell 2; have d3 := r1.cell 3; have d4 := r1.cell 4; have d5 := r1.cell 5; have g0 := r1.frozen 0; have g1 := r1.frozen 1; have g2 := r1.frozen 2; have g3 := r1.frozen 3; have g4 := r1.frozen 4; have g5 := r1.frozen 5; have lr := r1.lt; simp at d0 d1 d2 d3 d4 d5)
  have z := ((((((r1.set 0 (.int .i64 3)).set 1 (.func (.func 50) #[] #[])).set 2 (.int .i64 0)).set 3 (.int .i64 0)).set 4 (.slice sl 0 c)).set 5 (.func f x y))
  have z0 := z.cell 0; have z1 := z.cell 1; have z2 := z.cell 2; have z3 := z.cell 3; have z4 := z.cell 4; have z5 := z.cell 5
  exact bodyPost_ret (v := .agg #[.int .i64 3, .func (.func 50) #[] #[], .int .i64 0, .int .i64 0, .slice sl 0 c, .func f x y]) (by simp [results, Tryz.results40, go_sem, z0, z1, z2, z3, z4, z5]) rfl ⟨_, rfl, hv.put6 r1 (.inl rfl) _ _ _ _ _ _, (((((((k0.trans hk1).set (by simp) _).set (by simp) _).set (by simp) _).set (by simp) _).set (by simp) _).set (by simp) _)⟩
set_option maxHeartbeats 8000000 in
set_option maxRecDepth 100000 in
theorem wr_13 (w : World) : Calls Tryz.prog 40 #[.int .i64 13] w fun e w' => ∃ v, e = .returned v ∧ WrOk w' v 3 50 0 0 [] ∧ Kept w w' := by
  have r0 := Cells.new w 76 zeroW
  have k0 : Kept w (w.alloc (.cells zeroW 76)) := Kept.alloc (Below.refl _ _) _
  have hC := ex_13 (w.alloc (.cells zeroW 76))
  go_enter Tryz.func40, Tryz.ntmps40
  go_wp2_with (go_at_call 65; refine hC.mono ?_; rintro e w1 ⟨v, rfl, hv, hk1⟩; obtain ⟨sl, c, f, x, y, rfl, hsl⟩ := id hv; have r1 := r0.kept hk1; have d0 := r1.cell 0; have d1 := r1.cell 1; have d2 := r1.cell 2; have d3 := r1.cell 3; have d4 := r1.cell 4; have d5 := r1.cell 5; have g0 := r1.frozen 0; have g1 := r1.frozen 1; have g2 := r1.frozen 2; have g3 := r1.frozen 3; have g4 := r1.frozen 4; have g5 := r1.frozen 5; have lr := r1.lt; simp at d0 d1 d2 d3 d4 d5)
  have z := ((((((r1.set 0 (.int .i64 3)).set 1 (.func (.func 50) #[] #[])).set 2 (.int .i64 0)).set 3 (.int .i64 0)).set 4 (.slice sl 0 c)).set 5 (.func f x y))
  have z0 := z.cell 0; have z1 := z.cell 1; have z2 := z.cell 2; have z3 := z.cell 3; have z4 := z.cell 4; have z5 := z.cell 5
  exact bodyPost_ret (v := .agg #[.int .i64 3, .func (.func 50) #[] #[], .int .i64 0, .int .i64 0, .slice sl 0 c, .func f x y]) (by simp [results, Tryz.results40, go_sem, z0, z1, z2, z3, z4, z5]) rfl ⟨_, rfl, hv.put6 r1 (.inl rfl) _ _ _ _ _ _, (((((((k0.trans hk1).set (by simp) _).set (by simp) _).set (by simp) _).set (by simp) _).set (by simp) _).set (by simp) _)⟩
set_option maxHeartbeats 8000000 in
set_option maxRecDepth 100000 in
theorem wr_14 (w : World) : Calls Tryz.prog 40 #[.int .i64 14] w fun e w' => ∃ v, e = .returned v ∧ WrOk w' v 3 50 0 0 [] ∧ Kept w w' := by
  have r0 := Cells.new w 76 zeroW
  have k0 : Kept w (w.alloc (.cells zeroW 76)) := Kept.alloc (Below.refl _ _) _
  have hC := ex_14 (w.alloc (.cells zeroW 76))
  go_enter Tryz.func40, Tryz.ntmps40
  go_wp2_with (go_at_call 65; refine hC.mono ?_; rintro e w1 ⟨v, rfl, hv, hk1⟩; obtain ⟨sl, c, f, x, y, rfl, hsl⟩ := id hv; have r1 := r0.kept hk1; have d0 := r1.cell 0; have d1 := r1.cell 1; have d2 := r1.cell 2; have d3 := r1.cell 3; have d4 := r1.cell 4; have d5 := r1.cell 5; have g0 := r1.frozen 0; have g1 := r1.frozen 1; have g2 := r1.frozen 2; have g3 := r1.frozen 3; have g4 := r1.frozen 4; have g5 := r1.frozen 5; have lr := r1.lt; simp at d0 d1 d2 d3 d4 d5)
  have z := ((((((r1.set 0 (.int .i64 3)).set 1 (.func (.func 50) #[] #[])).set 2 (.int .i64 0)).set 3 (.int .i64 0)).set 4 (.slice sl 0 c)).set 5 (.func f x y))
  have z0 := z.cell 0; have z1 := z.cell 1; have z2 := z.cell 2; have z3 := z.cell 3; have z4 := z.cell 4; have z5 := z.cell 5
  exact bodyPost_ret (v := .agg #[.int .i64 3, .func (.func 50) #[] #[], .int .i64 0, .int .i64 0, .slice sl 0 c, .func f x y]) (by simp [results, Tryz.results40, go_sem, z0, z1, z2, z3, z4, z5]) rfl ⟨_, rfl, hv.put6 r1 (.inl rfl) _ _ _ _ _ _, (((((((k0.trans hk1).set (by simp) _).set (by simp) _).set (by simp) _).set (by simp) _).set (by simp) _).set (by simp) _)⟩
set_option maxHeartbeats 8000000 in
set_option maxRecDepth 100000 in
theorem wr_15 (w : World) : Calls Tryz.prog 40 #[.int .i64 15] w fun e w' => ∃ v, e = .returned v ∧ WrOk w' v 3 50 0 0 [] ∧ Kept w w' := by
  have r0 := Cells.new w 76 zeroW
  have k0 : Kept w (w.alloc (.cells zeroW 76)) := Kept.alloc (Below.refl _ _) _
  have hC := ex_15 (w.alloc (.cells zeroW 76))
  go_enter Tryz.func40, Tryz.ntmps40
  go_wp2_with (go_at_call 65; refine hC.mono ?_; rintro e w1 ⟨v, rfl, hv, hk1⟩; obtain ⟨sl, c, f, x, y, rfl, hsl⟩ := id hv; have r1 := r0.kept hk1; have d0 := r1.cell 0; have d1 := r1.cell 1; have d2 := r1.cell 2; have d3 := r1.cell 3; have d4 := r1.cell 4; have d5 := r1.cell 5; have g0 := r1.frozen 0; have g1 := r1.frozen 1; have g2 := r1.frozen 2; have g3 := r1.frozen 3; have g4 := r1.frozen 4; have g5 := r1.frozen 5; have lr := r1.lt; simp at d0 d1 d2 d3 d4 d5)
  have z := ((((((r1.set 0 (.int .i64 3)).set 1 (.func (.func 50) #[] #[])).set 2 (.int .i64 0)).set 3 (.int .i64 0)).set 4 (.slice sl 0 c)).set 5 (.func f x y))
  have z0 := z.cell 0; have z1 := z.cell 1; have z2 := z.cell 2; have z3 := z.cell 3; have z4 := z.cell 4; have z5 := z.cell 5
  exact bodyPost_ret (v := .agg #[.int .i64 3, .func (.func 50) #[] #[], .int .i64 0, .int .i64 0, .slice sl 0 c, .func f x y]) (by simp [results, Tryz.results40, go_sem, z0, z1, z2, z3, z4, z5]) rfl ⟨_, rfl, hv.put6 r1 (.inl rfl) _ _ _ _ _ _, (((((((k0.trans hk1).set (by simp) _).set (by simp) _).set (by simp) _).set (by simp) _).set (by simp) _).set (by simp) _)⟩
set_option maxHeartbeats 8000000 in
set_option maxRecDepth 100000 in
theorem wr_16 (w : World) : Calls Tryz.prog 40 #[.int .i64 16] w fun e w' => ∃ v, e = .returned v ∧ WrOk w' v 3 53 0 0 [] ∧ Kept w w' := by
  have r0 := Cells.new w 76 zeroW
  have k0 : Kept w (w.alloc (.cells zeroW 76)) := Kept.alloc (Below.refl _ _) _
  have hC := ex_16 (w.alloc (.cells zeroW 76))
  go_enter Tryz.func40, Tryz.ntmps40
  go_wp2_with (go_at_call 65; refine hC.mono ?_; rintro e w1 ⟨v, rfl, hv, hk1⟩; obtain ⟨sl, c, f, x, y, rfl, hsl⟩ := id hv; have r1 := r0.kept hk1; have d0 := r1.cell 0; have d1 := r1.cell 1; have d2 := r1.cell 2; have d3 := r1.cell 3; have d4 := r1.cell 4; have d5 := r1.cell 5; have g0 := r1.frozen 0; have g1 := r1.frozen 1; have g2 := r1.frozen 2; have g3 := r1.frozen 3; have g4 := r1.frozen 4; have g5 := r1.frozen 5; have lr := r1.lt; simp at d0 d1 d2 d3 d4 d5)
  have z := ((((((r1.set 0 (.int .i64 3)).set 1 (.func (.func 53) #[] #[])).set 2 (.int .i64 0)).set 3 (.int .i64 0)).set 4 (.slice sl 0 c)).set 5 (.func f x y))
  have z0 := z.cell 0; have z1 := z.cell 1; have z2 := z.cell 2; have z3 := z.cell 3; have z4 := z.cell 4; have z5 := z.cell 5
  exact bodyPost_ret (v := .agg #[.int .i64 3, .func (.func 53) #[] #[], .int .i64 0, .int .i64 0, .slice sl 0 c, .func f x y]) (by simp [results, Tryz.results40, go_sem, z0, z1, z2, z3, z4, z5]) rfl ⟨_, rfl, hv.put6 r1 (.inl rfl) _ _ _ _ _ _, (((((((k0.trans hk1).set (by simp) _).set (by simp) _).set (by simp) _).set (by simp) _).set (by simp) _).set (by simp) _)⟩
set_option maxHeartbeats 8000000 in
set_option maxRecDepth 100000 in
theorem wr_17 (w : World) : Calls Tryz.prog 40 #[.int .i64 17] w fun e w' => ∃ v, e = .returned v ∧ WrOk w' v 3 57 1 1 [3] ∧ Kept w w' := by
  have r0 := Cells.new w 76 zeroW
  have k0 : Kept w (w.alloc (.cells zeroW 76)) := Kept.alloc (Below.refl _ _) _
  have hC := ex_17 (w.alloc (.cells zeroW 76))
  go_enter Tryz.func40, Tryz.ntmps40
  go_wp2_with (go_at_call 65; refine hC.mono ?_; rintro e w1 ⟨v, rfl, hv, hk1⟩; obtain ⟨sl, c, f, x, y, rfl, hsl⟩ := id hv; have r1 := r0.kept hk1; have d0 := r1.cell 0; have d1 := r1.cell 1; have d2 := r1.cell 2; have d3 := r1.cell 3; have d4 := r1.cell 4; have d5 := r1.cell 5; have g0 := r1.frozen 0; have g1 := r1.frozen 1; have g2 := r1.frozen 2; have g3 := r1.frozen 3; have g4 := r1.frozen 4; have g5 := r1.frozen 5; have lr := r1.lt; simp at d0 d1 d2 d3 d4 d5)
  have z := ((((((r1.set 0 (.int .i64 3)).set 1 (.func (.func 57) #[] #[])).set 2 (.int .i64 1)).set 3 (.int .i64 1)).set 4 (.slice sl 1 c)).set 5 (.func f x y))
  have z0 := z.cell 0; have z1 := z.cell 1; have z2 := z.cell 2; have z3 := z.cell 3; have z4 := z.cell 4; have z5 := z.cell 5
  exact bodyPost_ret (v := .agg #[.int .i64 3, .func (.func 57) #[] #[], .int .i64 1, .int .i64 1, .slice sl 1 c, .func f x y]) (by simp [results, Tryz.results40, go_sem, z0, z1, z2, z3, z4, z5]) rfl ⟨_, rfl, hv.put6 r1 (.inr ⟨_, _, rfl, by decide⟩) _ _ _ _ _ _, (((((((k0.trans hk1).set (by simp) _).set (by simp) _).set (by simp) _).set (by simp) _).set (by simp) _).set (by simp) _)⟩
set_option maxHeartbeats 8000000 in
set_option maxRecDepth 100000 in
theorem wr_18 (w : World) : Calls Tryz.prog 40 #[.int .i64 18] w fun e w' => ∃ v, e = .returned v ∧ WrOk w' v 3 50 1 200 [3] ∧ Kept w w' := by
  have r0 := Cells.new w 76 zeroW
  have k0 : Kept w (w.alloc (.cells zeroW 76)) := Kept.alloc (Below.refl _ _) _
  have hC := ex_18 (w.alloc (.cells zeroW 76))
  go_enter Tryz.func40, Tryz.ntmps40
  go_wp2_with (go_at_call 65; refine hC.mono ?_; rintro e w1 ⟨v, rfl, hv, hk1⟩; obtain ⟨sl, c, f, x, y, rfl, hsl⟩ := id hv; have r1 := r0.kept hk1; have d0 := r1.cell 0; have d1 := r1.cell 1; have d2 := r1.cell 2; have d3 := r1.cell 3; have d4 := r1.cell 4; have d5 := r1.cell 5; have g0 := r1.frozen 0; have g1 := r1.frozen 1; have g2 := r1.frozen 2; have g3 := r1.frozen 3; have g4 := r1.frozen 4; have g5 := r1.frozen 5; have lr := r1.lt; simp at d0 d1 d2 d3 d4 d5)
  have z := ((((((r1.set 0 (.int .i64 3)).set 1 (.func (.func 50) #[] #[])).set 2 (.int .i64 1)).set 3 (.int .i64 200)).set 4 (.slice sl 1 c)).set 5 (.func f x y))
  have z0 := z.cell 0; have z1 := z.cell 1; have z2 := z.cell 2; have z3 := z.cell 3; have z4 := z.cell 4; have z5 := z.cell 5
  exact bodyPost_ret (v := .agg #[.int .i64 3, .func (.func 50) #[] #[], .int .i64 1, .int .i64 200, .slice sl 1 c, .func f x y]) (by simp [results, Tryz.results40, go_sem, z0, z1, z2, z3, z4, z5]) rfl ⟨_, rfl, hv.put6 r1 (.inr ⟨_, _, rfl, by decide⟩) _ _ _ _ _ _, (((((((k0.trans hk1).set (by simp) _).set (by simp) _).set (by simp) _).set (by simp) _).set (by simp) _).set (by simp) _)⟩
set_option maxHeartbeats 8000000 in
set_option maxRecDepth 100000 in
theorem wr_19 (w : World) : Calls Tryz.prog 40 #[.int .i64 19] w fun e w' => ∃ v, e = .returned v ∧ WrOk w' v 3 50 2 2 [3, 3] ∧ Kept w w' := by
  have r0 := Cells.new w 76 zeroW
  have k0 : Kept w (w.alloc (.cells zeroW 76)) := Kept.alloc (Below.refl _ _) _
  have hC := ex_19 (w.alloc (.cells zeroW 76))
  go_enter Tryz.func40, Tryz.ntmps40
  go_wp2_with (go_at_call 65; refine hC.mono ?_; rintro e w1 ⟨v, rfl, hv, hk1⟩; obtain ⟨sl, c, f, x, y, rfl, hsl⟩ := id hv; have r1 := r0.kept hk1; have d0 := r1.cell 0; have d1 := r1.cell 1; have d2 := r1.cell 2; have d3 := r1.cell 3; have d4 := r1.cell 4; have d5 := r1.cell 5; have g0 := r1.frozen 0; have g1 := r1.frozen 1; have g2 := r1.frozen 2; have g3 := r1.frozen 3; have g4 := r1.frozen 4; have g5 := r1.frozen 5; have lr := r1.lt; simp at d0 d1 d2 d3 d4 d5)
  have z := ((((((r1.set 0 (.int .i64 3)).set 1 (.func (.func 50) #[] #[])).set 2 (.int .i64 2)).set 3 (.int .i64 2)).set 4 (.slice sl 2 c)).set 5 (.func f x y))
  have z0 := z.cell 0; have z1 := z.cell 1; have z2 := z.cell 2; have z3 := z.cell 3; have z4 := z.cell 4; have z5 := z.cell 5
  exact bodyPost_ret (v := .agg #[.int .i64 3, .func (.func 50) #[] #[], .int .i64 2, .int .i64 2, .slice sl 2 c, .func f x y]) (by simp [results, Tryz.results40, go_sem, z0, z1, z2, z3, z4, z5]) rfl ⟨_, rfl, hv.put6 r1 (.inr ⟨_, _, rfl, by decide⟩) _ _ _ _ _ _, (((((((k0.trans hk1).set (by simp) _).set (by simp) _).set (by simp) _).set (by simp) _).set (by simp) _).set (by simp) _)⟩
set_option maxHeartbeats 8000000 in
set_option maxRecDepth 100000 in
theorem wr_20 (w : World) : Calls Tryz.prog 40 #[.int .i64 20] w fun e w' => ∃ v, e = .returned v ∧ WrOk w' v 3 50 2 2 [3, 3] ∧ Kept w w' := by
  have r0 := Cells.new w 76 zeroW
  have k0 : Kept w (w.alloc (.cells zeroW 76)) := Kept.alloc (Below.refl _ _) _
  have hC := ex_20 (w.alloc (.cells zeroW 76))
  go_enter Tryz.func40, Tryz.ntmps40
  go_wp2_with (go_at_call 65; refine hC.mono ?_; rintro e w1 ⟨v, rfl, hv, hk1⟩; obtain ⟨sl, c, f, x, y, rfl, hsl⟩ := id hv; have r1 := r0.kept hk1; have d0 := r1.cell 0; have d1 := r1.cell 1; have d2 := r1.cell 2; have d3 := r1.cell 3; have d4 := r1.cell 4; have d5 := r1.cell 5; have g0 := r1.frozen 0; have g1 := r1.frozen 1; have g2 := r1.frozen 2; have g3 := r1.frozen 3; have g4 := r1.frozen 4; have g5 := r1.frozen 5; have lr := r1.lt; simp at d0 d1 d2 d3 d4 d5)
  have z := ((((((r1.set 0 (.int .i64 3)).set 1 (.func (.func 50) #[] #[])).set 2 (.int .i64 2)).set 3 (.int .i64 2)).set 4 (.slice sl 2 c)).set 5 (.func f x y))
  have z0 := z.cell 0; have z1 := z.cell 1; have z2 := z.cell 2; have z3 := z.cell 3; have z4 := z.cell 4; have z5 := z.cell 5
  exact bodyPost_ret (v := .agg #[.int .i64 3, .func (.func 50) #[] #[], .int .i64 2, .int .i64 2, .slice sl 2 c, .func f x y]) (by simp [results, Tryz.results40, go_sem, z0, z1, z2, z3, z4, z5]) rfl ⟨_, rfl, hv.put6 r1 (.inr ⟨_, _, rfl, by decide⟩) _ _ _ _ _ _, (((((((k0.trans hk1).set (by simp) _).set (by simp) _).set (by simp) _).set (by simp) _).set (by simp) _).set (by simp) _)⟩
set_option maxHeartbeats 8000000 in
set_option maxRecDepth 100000 in
theorem wr_21 (w : World) : Calls Tryz.prog 40 #[.int .i64 21] w fun e w' => ∃ v, e = .returned v ∧ WrOk w' v 3 50 2 2 [3, 3] ∧ Kept w w' := by
  have r0 := Cells.new w 76 zeroW
  have k0 : Kept w (w.alloc (.cells zeroW 76)) := Kept.alloc (Below.refl _ _) _
  have hC := ex_21 (w.alloc (.cells zeroW 76))
  go_enter Tryz.func40, Tryz.ntmps40
  go_wp2_with (go_at_call 65; refine hC.mono ?_; rintro e w1 ⟨v, rfl, hv, hk1⟩; obtain ⟨sl, c, f, x, y, rfl, hsl⟩ := id hv; have r1 := r0.kept hk1; have d0 := r1.cell 0; have d1 := r1.cell 1; have d2 := r1.cell 2; have d3 := r1.cell 3; have d4 := r1.cell 4; have d5 := r1.cell 5; have g0 := r1.frozen 0; have g1 := r1.frozen 1; have g2 := r1.frozen 2; have g3 := r1.frozen 3; have g4 := r1.frozen 4; have g5 := r1.frozen 5; have lr := r1.lt; simp at d0 d1 d2 d3 d4 d5)
  have z := ((((((r1.set 0 (.int .i64 3)).set 1 (.func (.func 50) #[] #[])).set 2 (.int .i64 2)).set 3 (.int .i64 2)).set 4 (.slice sl 2 c)).set 5 (.func f x y))
  have z0 := z.cell 0; have z1 := z.cell 1; have z2 := z.cell 2; have z3 := z.cell 3; have z4 := z.cell 4; have z5 := z.cell 5
  exact bodyPost_ret (v := .agg #[.int .i64 3, .func (.func 50) #[] #[], .int .i64 2, .int .i64 2, .slice sl 2 c, .func f x y]) (by simp [results, Tryz.results40, go_sem, z0, z1, z2, z3, z4, z5]) rfl ⟨_, rfl, hv.put6 r1 (.inr ⟨_, _, rfl, by decide⟩) _ _ _ _ _ _, (((((((k0.trans hk1).set (by simp) _).set (by simp) _).set (by simp) _).set (by simp) _).set (by simp) _).set (by simp) _)⟩
set_option maxHeartbeats 8000000 in
set_option maxRecDepth 100000 in
theorem wr_22 (w : World) : Calls Tryz.prog 40 #[.int .i64 22] w fun e w' => ∃ v, e = .returned v ∧ WrOk w' v 3 50 2 2 [3, 3] ∧ Kept w w' := by
  have r0 := Cells.new w 76 zeroW
  have k0 : Kept w (w.alloc (.cells zeroW 76)) := Kept.alloc (Below.refl _ _) _
  have hC := ex_22 (w.alloc (.cells zeroW 76))
  go_enter Tryz.func40, Tryz.ntmps40
  go_wp2_with (go_at_call 65; refine hC.mono ?_; rintro e w1 ⟨v, rfl, hv, hk1⟩; obtain ⟨sl, c, f, x, y, rfl, hsl⟩ := id hv; have r1 := r0.kept hk1; have d0 := r1.cell 0; have d1 := r1.cell 1; have d2 := r1.cell 2; have d3 := r1.cell 3; have d4 := r1.cell 4; have d5 := r1.cell 5; have g0 := r1.frozen 0; have g1 := r1.frozen 1; have g2 := r1.frozen 2; have g3 := r1.frozen 3; have g4 := r1.frozen 4; have g5 := r1.frozen 5; have lr := r1.lt; simp at d0 d1 d2 d3 d4 d5)
  have z := ((((((r1.set 0 (.int .i64 3)).set 1 (.func (.func 50) #[] #[])).set 2 (.int .i64 2)).set 3 (.int .i64 2)).set 4 (.slice sl 2 c)).set 5 (.func f x y))
  have z0 := z.cell 0; have z1 := z.cell 1; have z2 := z.cell 2; have z3 := z.cell 3; have z4 := z.cell 4; have z5 := z.cell 5
  exact bodyPost_ret (v := .agg #[.int .i64 3, .func (.func 50) #[] #[], .int .i64 2, .int .i64 2, .slice sl 2 c, .func f x y]) (by simp [results, Tryz.results40, go_sem, z0, z1, z2, z3, z4, z5]) rfl ⟨_, rfl, hv.put6 r1 (.inr ⟨_, _, rfl, by decide⟩) _ _ _ _ _ _, (((((((k0.trans hk1).set (by simp) _).set (by simp) _).set (by simp) _).set (by simp) _).set (by simp) _).set (by simp) _)⟩
set_option maxHeartbeats 8000000 in
set_option maxRecDepth 100000 in
theorem wr_23 (w : World) : Calls Tryz.prog 40 #[.int .i64 23] w fun e w' => ∃ v, e = .returned v ∧ WrOk w' v 3 50 2 2 [3, 3] ∧ Kept w w' := by
  have r0 := Cells.new w 76 zeroW
  have k0 : Kept w (w.alloc (.cells zeroW 76)) := Kept.alloc (Below.refl _ _) _
  have hC := ex_23 (w.alloc (.cells zeroW 76))
  go_enter Tryz.func40, Tryz.ntmps40
  go_wp2_with (go_at_call 65; refine hC.mono ?_; rintro e w1 ⟨v, rfl, hv, hk1⟩; obtain ⟨sl, c, f, x, y, rfl, hsl⟩ := id hv; have r1 := r0.kept hk1; have d0 := r1.cell 0; have d1 := r1.cell 1; have d2 := r1.cell 2; have d3 := r1.cell 3; have d4 := r1.cell 4; have d5 := r1.cell 5; have g0 := r1.frozen 0; have g1 := r1.frozen 1; have g2 := r1.frozen 2; have g3 := r1.frozen 3; have g4 := r1.frozen 4; have g5 := r1.frozen 5; have lr := r1.lt; simp at d0 d1 d2 d3 d4 d5)
  have z := ((((((r1.set 0 (.int .i64 3)).set 1 (.func (.func 50) #[] #[])).set 2 (.int .i64 2)).set 3 (.int .i64 2)).set 4 (.slice sl 2 c)).set 5 (.func f x y))
  have z0 := z.cell 0; have z1 := z.cell 1; have z2 := z.cell 2; have z3 := z.cell 3; have z4 := z.cell 4; have z5 := z.cell 5
  exact bodyPost_ret (v := .agg #[.int .i64 3, .func (.func 50) #[] #[], .int .i64 2, .int .i64 2, .slice sl 2 c, .func f x y]) (by simp [results, Tryz.results40, go_sem, z0, z1, z2, z3, z4, z5]) rfl ⟨_, rfl, hv.put6 r1 (.inr ⟨_, _, rfl, by decide⟩) _ _ _ _ _ _, (((((((k0.trans hk1).set (by simp) _).set (by simp) _).set (by simp) _).set (by simp) _).set (by simp) _).set (by simp) _)⟩
set_option maxHeartbeats 8000000 in
set_option maxRecDepth 100000 in
theorem wr_24 (w : World) : Calls Tryz.prog 40 #[.int .i64 24] w fun e w' => ∃ v, e = .returned v ∧ WrOk w' v 3 50 1 1 [3] ∧ Kept w w' := by
  have r0 := Cells.new w 76 zeroW
  have k0 : Kept w (w.alloc (.cells zeroW 76)) := Kept.alloc (Below.refl _ _) _
  have hC := ex_24 (w.alloc (.cells zeroW 76))
  go_enter Tryz.func40, Tryz.ntmps40
  go_wp2_with (go_at_call 65; refine hC.mono ?_; rintro e w1 ⟨v, rfl, hv, hk1⟩; obtain ⟨sl, c, f, x, y, rfl, hsl⟩ := id hv; have r1 := r0.kept hk1; have d0 := r1.cell 0; have d1 := r1.cell 1; have d2 := r1.cell 2; have d3 := r1.cell 3; have d4 := r1.cell 4; have d5 := r1.cell 5; have g0 := r1.frozen 0; have g1 := r1.frozen 1; have g2 := r1.frozen 2; have g3 := r1.frozen 3; have g4 := r1.frozen 4; have g5 := r1.frozen 5; have lr := r1.lt; simp at d0 d1 d2 d3 d4 d5)
  have z := ((((((r1.set 0 (.int .i64 3)).set 1 (.func (.func 50) #[] #[])).set 2 (.int .i64 1)).set 3 (.int .i64 1)).set 4 (.slice sl 1 c)).set 5 (.func f x y))
  have z0 := z.cell 0; have z1 := z.cell 1; have z2 := z.cell 2; have z3 := z.cell 3; have z4 := z.cell 4; have z5 := z.cell 5
  exact bodyPost_ret (v := .agg #[.int .i64 3, .func (.func 50) #[] #[], .int .i64 1, .int .i64 1, .slice sl 1 c, .func f x y]) (by simp [results, Tryz.results40, go_sem, z0, z1, z2, z3, z4, z5]) rfl ⟨_, rfl, hv.put6 r1 (.inr ⟨_, _, rfl, by decide⟩) _ _ _ _ _ _, (((((((k0.trans hk1).set (by simp) _).set (by simp) _).set (by simp) _).set (by simp) _).set (by simp) _).set (by simp) _)⟩
set_option maxHeartbeats 8000000 in
set_option maxRecDepth 100000 in
theorem wr_25 (w : World) : Calls Tryz.prog 40 #[.int .i64 25] w fun e w' => ∃ v, e = .returned v ∧ WrOk w' v 3 50 0 200 [4] ∧ Kept w w' := by
  have r0 := Cells.new w 76 zeroW
  have k0 : Kept w (w.alloc (.cells zeroW 76)) := Kept.alloc (Below.refl _ _) _
  have hC := ex_25 (w.alloc (.cells zeroW 76))
  go_enter Tryz.func40, Tryz.ntmps40
  go_wp2_with (go_at_call 65; refine hC.mono ?_; rintro e w1 ⟨v, rfl, hv, hk1⟩; obtain ⟨sl, c, f, x, y, rfl, hsl⟩ := id hv; have r1 := r0.kept hk1; have d0 := r1.cell 0; have d1 := r1.cell 1; have d2 := r1.cell 2; have d3 := r1.cell 3; have d4 := r1.cell 4; have d5 := r1.cell 5; have g0 := r1.frozen 0; have g1 := r1.frozen 1; have g2 := r1.frozen 2; have g3 := r1.frozen 3; have g4 := r1.frozen 4; have g5 := r1.frozen 5; have lr := r1.lt; simp at d0 d1 d2 d3 d4 d5)
  have z := ((((((r1.set 0 (.int .i64 3)).set 1 (.func (.func 50) #[] #[])).set 2 (.int .i64 0)).set 3 (.int .i64 200)).set 4 (.slice sl 1 c)).set 5 (.func f x y))
  have z0 := z.cell 0; have z1 := z.cell 1; have z2 := z.cell 2; have z3 := z.cell 3; have z4 := z.cell 4; have z5 := z.cell 5
  exact bodyPost_ret (v := .agg #[.int .i64 3, .func (.func 50) #[] #[], .int .i64 0, .int .i64 200, .slice sl 1 c, .func f x y]) (by simp [results, Tryz.results40, go_sem, z0, z1, z2, z3, z4, z5]) rfl ⟨_, rfl, hv.put6 r1 (.inr ⟨_, _, rfl, by decide⟩) _ _ _ _ _ _, (((((((k0.trans hk1).set (by simp) _).set (by simp) _).set (by simp) _).set (by simp) _).set (by simp) _).set (by simp) _)⟩
set_option maxHeartbeats 8000000 in
set_option maxRecDepth 100000 in
theorem wr_27 (w : World) : Calls Tryz.prog 40 #[.int .i64 27] w fun e w' => ∃ v, e = .returned v ∧ WrOk w' v 3 82 1 1 [1] ∧ Kept w w' := by
  have r0 := Cells.new w 76 zeroW
  have k0 : Kept w (w.alloc (.cells zeroW 76)) := Kept.alloc (Below.refl _ _) _
  have hC := ex_27 (w.alloc (.cells zeroW 76))
  go_enter Tryz.func40, Tryz.ntmps40
  go_wp2_with (go_at_call 65; refine hC.mono ?_; rintro e w1 ⟨v, rfl, hv, hk1⟩; obtain ⟨sl, c, f, x, y, rfl, hsl⟩ := id hv; have r1 := r0.kept hk1; have d0 := r1.cell 0; have d1 := r1.cell 1; have d2 := r1.cell 2; have d3 := r1.cell 3; have d4 := r1.cell 4; have d5 := r1.cell 5; have g0 := r1.frozen 0; have g1 := r1.frozen 1; have g2 := r1.frozen 2; have g3 := r1.frozen 3; have g4 := r1.frozen 4; have g5 := r1.frozen 5; have lr := r1.lt; simp at d0 d1 d2 d3 d4 d5)
  have z := ((((((r1.set 0 (.int .i64 3)).set 1 (.func (.func 82) #[] #[])).set 2 (.int .i64 1)).set 3 (.int .i64 1)).set 4 (.slice sl 1 c)).set 5 (.func f x y))
  have z0 := z.cell 0; have z1 := z.cell 1; have z2 := z.cell 2; have z3 := z.cell 3; have z4 := z.cell 4; have z5 := z.cell 5
  exact bodyPost_ret (v := .agg #[.int .i64 3, .func (.func 82) #[] #[], .int .i64 1, .int .i64 1, .slice sl 1 c, .func f x y]) (by simp [results, Tryz.results40, go_sem, z0, z1, z2, z3, z4, z5]) rfl ⟨_, rfl, hv.put6 r1 (.inr ⟨_, _, rfl, by decide⟩) _ _ _ _ _ _, (((((((k0.trans hk1).set (by simp) _).set (by simp) _).set (by simp) _).set (by simp) _).set (by simp) _).set (by simp) _)⟩
end Go.Proofs.YtlinbkgeahgkjaaGreatDoor
namespace Go.Proofs.YtlinbkgeahgkjaaGreatDoor
open Go.RowKit
set_option linter.unusedSimpArgs false

def ownF (op : Int) : FuncId := if op = 10 then 72 else if op = 2 ∨ op = 3 ∨ op = 16 ∨ op = 26 then 53 else if op = 4 ∨ op = 17 then 57 else if op = 11 then 74 else if op = 27 then 82 else 50
def leastB (op : Int) : Int := if op = 1 ∨ op = 25 then 0 else if one1 op || decide (op = 27) then 1 else if two2 op || decide (op = 6) then 2 else if op = 5 then 2 else if op = 18 then 1 else 0
def mostB (op : Int) : Int := if op = 1 ∨ op = 25 then 200 else if one1 op || decide (op = 27) then 1 else if two2 op || decide (op = 6) then 2 else if op = 5 then 3 else if op = 18 then 200 else 0
def standL (op : Int) : List Int := if op = 1 then [2] else if op = 25 then [4] else if one1 op then [3] else if op = 27 then [1] else if two2 op then [3, 3] else if op = 5 ∨ op = 6 then [3, 1] else if op = 18 then [3] else []
theorem op_cases {op : Int} (h1 : 1 ≤ op) (h2 : op ≤ 27) : op = 1 ∨ op = 2 ∨ op = 3 ∨ op = 4 ∨ op = 5 ∨ op = 6 ∨ op = 7 ∨ op = 8 ∨ op = 9 ∨ op = 10 ∨ op = 11 ∨ op = 12 ∨ op = 13 ∨ op = 14 ∨ op = 15 ∨ op = 16 ∨ op = 17 ∨ op = 18 ∨ op = 19 ∨ op = 20 ∨ op = 21 ∨ op = 22 ∨ op = 23 ∨ op = 24 ∨ op = 25 ∨ op = 26 ∨ op = 27 := by omega
theorem count_tab {op : Int} (h1 : 1 ≤ op) (h2 : op ≤ 27) {n : Nat} (hn : n ≤ 200) : decide (leastB op ≤ (n : Int) ∧ (n : Int) ≤ mostB op) = countB op n := by
  rcases op_cases h1 h2 with rfl | rfl | rfl | rfl | rfl | rfl | rfl | rfl | rfl | rfl | rfl | rfl | rfl | rfl | rfl | rfl | rfl | rfl | rfl | rfl | rfl | rfl | rfl | rfl | rfl | rfl | rfl
  all_goals (
    simp only [leastB, mostB, countB, one1, two2]
    simp
    try first | omega | (rw [Bool.eq_iff_iff]; simp only [Bool.and_eq_true, decide_eq_true_eq]; omega))
theorem want_in (op : Int) (i : Nat) : 1 ≤ wantAt op i ∧ wantAt op i ≤ 4 := by
  unfold wantAt
  (repeat' split) <;> omega
theorem at_tab {op : Int} (h1 : 1 ≤ op) (h2 : op ≤ 27) {l k : Nat} (hc : countB op l = true) (hk : k < l) : 1 ≤ (standL op).length ∧ (standL op).length ≤ 2 ∧ (standL op)[min k ((standL op).length - 1)]? = some ((wantAt op k : Nat) : Int) := by
  have h0 : min k 0 = 0 := by omega
  rcases op_cases h1 h2 with rfl | rfl | rfl | rfl | rfl | rfl | rfl | rfl | rfl | rfl | rfl | rfl | rfl | rfl | rfl | rfl | rfl | rfl | rfl | rfl | rfl | rfl | rfl | rfl | rfl | rfl | rfl
  all_goals first
    | (refine ⟨by decide, by decide, ?_⟩
       first
         | (show ([_] : List Int)[min k 0]? = _; rw [h0]; rfl)
         | (show ([3, 3] : List Int)[min k 1]? = _
            rcases (show min k 1 = 0 ∨ min k 1 = 1 by omega) with e | e <;> rw [e] <;> rfl)
         | (show ([3, 1] : List Int)[min k 1]? = _
            cases k with
            | zero => rfl
            | succ k => rw [show min (k + 1) 1 = 1 by omega]; rfl))
    | (exfalso; simp [countB, one1, two2] at hc; omega)
theorem writer_ok {op : Int} (h1 : 1 ≤ op) (h2 : op ≤ 27) (w : World) :
    Calls Tryz.prog 40 #[.int .i64 op] w fun e w' => ∃ v, e = .returned v ∧ WrOk w' v (st op) (ownF op) (leastB op) (mostB op) (standL op) ∧ Kept w w' := by
  rcases op_cases h1 h2 with rfl | rfl | rfl | rfl | rfl | rfl | rfl | rfl | rfl | rfl | rfl | rfl | rfl | rfl | rfl | rfl | rfl | rfl | rfl | rfl | rfl | rfl | rfl | rfl | rfl | rfl | rfl
  · exact wr_1 w
  · exact wr_2 w
  · exact wr_3 w
  · exact wr_4 w
  · exact wr_5 w
  · exact wr_6 w
  · exact wr_7 w
  · exact wr_8 w
  · exact wr_9 w
  · exact wr_10 w
  · exact wr_11 w
  · exact wr_12 w
  · exact wr_13 w
  · exact wr_14 w
  · exact wr_15 w
  · exact wr_16 w
  · exact wr_17 w
  · exact wr_18 w
  · exact wr_19 w
  · exact wr_20 w
  · exact wr_21 w
  · exact wr_22 w
  · exact wr_23 w
  · exact wr_24 w
  · exact wr_25 w
  · exact wr_26 w
  · exact wr_27 w
set_option maxHeartbeats 8000000 in
set_option maxRecDepth 100000 in
theorem exprWriter_none {op : Int} (h : ¬ (1 ≤ op ∧ op ≤ 27)) (w : World) :
    Calls Tryz.prog 65 #[.int .i64 op] w fun e w' => e = .returned (.agg zeroW) ∧ Kept w w' := by
  have y10 : (op == 10) = false := by simp; omega
  have y11 : (op == 11) = false := by simp; omega
  have y12 : (op == 12) = false := by simp; omega
  have y13 : (op == 13) = false := by simp; omega
  have y14 : (op == 14) = false := by simp; omega
  have y15 : (op == 15) = false := by simp; omega
  have y16 : (op == 16) = false := by simp; omega
  have y17 : (op == 17) = false := by simp; omega
  have y18 : (op == 18) = false := by simp; omega
  have y19 : (op == 19) = false := by simp; omega
  have y20 : (op == 20) = false := by simp; omega
  have y21 : (op == 21) = false := by simp; omega
  have y22 : (op == 22) = false := by simp; omega
  have y23 : (op == 23) = false := by simp; omega
  have y24 : (op == 24) = false := by simp; omega
  have y25 : (op == 25) = false := by simp; omega
  have y27 : (op == 27) = false := by simp; omega
  have r0 := Cells.new w 76 zeroW
  have z0 := r0.cell 0; have z1 := r0.cell 1; have z2 := r0.cell 2; have z3 := r0.cell 3; have z4 := r0.cell 4; have z5 := r0.cell 5
  simp at z0 z1 z2 z3 z4 z5
  clear h
  go_enter Tryz.func65, Tryz.ntmps65
  go_wp2_with fail
  exact bodyPost_ret (v := .agg zeroW) (by simp [results, Tryz.results65, go_sem, z0, z1, z2, z3, z4, z5]) rfl ⟨rfl, Kept.alloc (Below.refl _ _) _⟩
set_option maxHeartbeats 8000000 in
set_option maxRecDepth 100000 in
theorem writer_none {op : Int} (h : ¬ (1 ≤ op ∧ op ≤ 27)) (w : World) :
    Calls Tryz.prog 40 #[.int .i64 op] w fun e w' => e = .returned (.agg zeroW) ∧ Kept w w' := by
  have hC := exprWriter_none h (w.alloc (.cells zeroW 76))
  have y1 : (op == 1) = false := by simp; omega
  have y2 : (op == 2) = false := by simp; omega
  have y3 : (op == 3) = false := by simp; omega
  have y4 : (op == 4) = false := by simp; omega
  have y5 : (op == 5) = false := by simp; omega
  have y6 : (op == 6) = false := by simp; omega
  have y7 : (op == 7) = false := by simp; omega
  have y8 : (op == 8) = false := by simp; omega
  have y9 : (op == 9) = false := by simp; omega
  have y26 : (op == 26) = false := by simp; omega
  have r0 := Cells.new w 76 zeroW
  have k0 : Kept w (w.alloc (.cells zeroW 76)) := Kept.alloc (Below.refl _ _) _
  clear h
  go_enter Tryz.func40, Tryz.ntmps40
  go_wp2_with (go_at_call 65; refine hC.mono ?_; rintro e w1 ⟨rfl, hk1⟩; have r1 := r0.kept hk1; have d0 := r1.cell 0; have d1 := r1.cell 1; have d2 := r1.cell 2; have d3 := r1.cell 3; have d4 := r1.cell 4; have d5 := r1.cell 5; have g0 := r1.frozen 0; have g1 := r1.frozen 1; have g2 := r1.frozen 2; have g3 := r1.frozen 3; have g4 := r1.frozen 4; have g5 := r1.frozen 5; have lr := r1.lt; simp at d0 d1 d2 d3 d4 d5)
  have z := (((((r1.set 0 (.int .i64 0)).set 1 .nilFunc).set 2 (.int .i64 0)).set 3 (.int .i64 0)).set 4 (.slice none 0 0)).set 5 .nilFunc
  have z0 := z.cell 0; have z1 := z.cell 1; have z2 := z.cell 2; have z3 := z.cell 3; have z4 := z.cell 4; have z5 := z.cell 5
  exact bodyPost_ret (v := .agg zeroW) (by simp [results, Tryz.results40, go_sem, z0, z1, z2, z3, z4, z5]) rfl ⟨rfl, ((((((k0.trans hk1).set (by simp) _).set (by simp) _).set (by simp) _).set (by simp) _).set (by simp) _).set (by simp) _⟩
theorem own_ok {op : Int} (h1 : 1 ≤ op) (h2 : op ≤ 27) (w : World) (hE : EnvA w) (n : Int) (s : ByteArray) (ao : Option Addr) (l cap : Nat) (hs : s.size ≤ 1048576) :
    Calls Tryz.prog (ownF op) #[.agg #[.int .i64 op, .string s, .int .i64 n, .slice ao l cap]] w fun e w' => e = .returned (.bool (ownB op s n)) ∧ Kept w w' := by
  unfold ownF ownB
  by_cases h10 : op = 10
  · rw [if_pos h10, if_pos h10]; exact hasNumber_ok w op n s ao l cap
  rw [if_neg h10, if_neg h10]
  by_cases ha : op = 2 ∨ op = 3 ∨ op = 16 ∨ op = 26
  · rw [if_pos ha, if_pos ha]; exact hasName_ok w hE op n s ao l cap hs
  rw [if_neg ha, if_neg ha]
  by_cases hb : op = 4 ∨ op = 17
  · rw [if_pos hb, if_pos hb]; exact hasProperty_ok w hE op n s ao l cap hs
  rw [if_neg hb, if_neg hb]
  by_cases hc : op = 11
  · rw [if_pos hc, if_pos hc]; exact hasText_ok w op n s ao l cap hs
  rw [if_neg hc, if_neg hc]
  by_cases hd : op = 27
  · rw [if_pos hd, if_pos hd]; exact hasNames_ok w hE op n s ao l cap hs
  rw [if_neg hd, if_neg hd, decide_eq_true (show 1 ≤ op ∧ op ≤ 27 from ⟨h1, h2⟩), Bool.and_true]
  exact hasNothing_ok w op n s ao l cap
end Go.Proofs.YtlinbkgeahgkjaaGreatDoor
namespace Go.Proofs.YtlinbkgeahgkjaaGreatDoor
open Go.RowKit
set_option linter.unusedSimpArgs false

theorem okK_iff {op : Int} : ∀ (ks : List Nd) (i : Nat), okK op i ks = true ↔ ∀ j x, ks[j]? = some x → stOk (wantAt op (i + j)) x = true
  | [], i => by simp [okK]
  | k :: ks, i => by
    rw [okK, Bool.and_eq_true, okK_iff ks (i + 1)]
    constructor
    · rintro ⟨h1, h2⟩ j x hx
      cases j with
      | zero => simp at hx; subst hx; exact h1
      | succ j => have := h2 j x (by simpa using hx); rwa [show i + 1 + j = i + (j + 1) by omega] at this
    · intro h
      exact ⟨h 0 k rfl, fun j x hx => by have := h (j + 1) x (by simpa using hx); rwa [show i + (j + 1) = i + 1 + j by omega] at this⟩
theorem ownF_enter (op : Int) (args : Array Value) (w : World) : Sem.run Tryz.prog (callFunc (ownF op) args) w = .ok (.enter (ownF op) args) w := by
  unfold ownF
  repeat' split
  all_goals kernel_rfl
theorem stOk_mk {a : Nat} {op n : Int} {s : ByteArray} {ks : List Nd} : stOk a (.mk op s n ks) = (decide (st op = a) && (ownB op s n && (countB op ks.length && okK op 0 ks))) := by
  rw [stOk, okT]
  rfl
def StCd (m : Nat) : Prop := ∀ t : Nd, t.size ≤ m → t.size ≤ 200 → t.bulk ≤ 1048576 → ∀ (a : Nat), 1 ≤ a → a ≤ 4 → ∀ (w : World) (base : Nat) (v : Value), EnvA w → NdV w base t v → Calls Tryz.prog 26 #[v, .int .i64 (a : Nat)] w fun e w' => e = .returned (.bool (stOk a t)) ∧ Kept w w'
set_option maxHeartbeats 16000000 in
set_option maxRecDepth 100000 in
theorem stands_step (m : Nat) (H : StCd m) : StCd (m + 1) := by
  intro t ht h200 hb a ha1 ha4 w base v hE hv
  cases t with
  | mk op s n ks =>
  rw [NdV] at hv
  obtain ⟨ao, cap, rfl, hml, hks⟩ := hv
  simp only [Nd.size, Nd.bulk] at ht h200 hb
  rw [stOk_mk]
  have b0 := Cells.new w 29 #[.int .i64 op, .string s, .int .i64 n, .slice ao ks.length cap]
  have k0 : Kept w (w.alloc (.cells #[.int .i64 op, .string s, .int .i64 n, .slice ao ks.length cap] 29)) := Kept.alloc (Below.refl _ _) _
  have HKS : Hid (ks = [] ∨ ∃ b off, ao = some ⟨b, off, none⟩ ∧ base ≤ b ∧ NdsV w base b off ks) := hks
  have HIH : Hid (StCd m) := H
  have hll := len_sizes ks
  have HEk : Hid (EnvA w) := hE
  clear hks H hE hml
  by_cases hr : 1 ≤ op ∧ op ≤ 27
  · have hW := writer_ok hr.1 hr.2 (w.alloc (.cells #[.int .i64 op, .string s, .int .i64 n, .slice ao ks.length cap] 29))
    have hc200 : ks.length ≤ 200 := by omega
    by_cases hst : st op = a
    · subst hst
      rw [decide_eq_true rfl, Bool.true_and]
      have hsb : s.size ≤ 1048576 := by omega
      have hct := count_tab hr.1 hr.2 hc200
      have HAT : Hid (∀ k, k < ks.length → countB op ks.length = true → 1 ≤ (standL op).length ∧ (standL op).length ≤ 2 ∧ (standL op)[min k ((standL op).length - 1)]? = some ((wantAt op k : Nat) : Int)) := fun k hk hc => at_tab hr.1 hr.2 hc hk
      obtain ⟨sto, hsto⟩ : ∃ x, st op = x := ⟨_, rfl⟩
      obtain ⟨lea, hlea⟩ : ∃ x, leastB op = x := ⟨_, rfl⟩
      obtain ⟨mos, hmos⟩ : ∃ x, mostB op = x := ⟨_, rfl⟩
      obtain ⟨SL, hSL⟩ : ∃ x, standL op = x := ⟨_, rfl⟩
      have HOW : Hid (∀ u, Kept (w.alloc (.cells #[.int .i64 op, .string s, .int .i64 n, .slice ao ks.length cap] 29)) u → Calls Tryz.prog (ownF op) #[.agg #[.int .i64 op, .string s, .int .i64 n, .slice ao ks.length cap]] u fun e w' => e = .returned (.bool (ownB op s n)) ∧ Kept u w') := fun u hu => own_ok hr.1 hr.2 u (HEk.out.kept (k0.trans hu)) n s ao ks.length cap hsb
      have hCF := ownF_enter op
      obtain ⟨of, hof⟩ : ∃ x, ownF op = x := ⟨_, rfl⟩
      rw [hof] at hCF
      rw [hsto, hlea, hmos, hSL, hof] at hW
      rw [hlea, hmos] at hct
      rw [hSL] at HAT
      rw [hof] at HOW
      rw [hsto] at ha1 ha4
      simp only [hsto]
      obtain ⟨ob, hob⟩ : ∃ x, ownB op s n = x := ⟨_, rfl⟩
      rw [hob] at HOW
      rw [hob]
      have HCT : Hid _ := hct
      clear hsto hlea hmos hSL hof hob hct
      obtain ⟨cb, hcb⟩ : ∃ x, countB op ks.length = x := ⟨_, rfl⟩
      rw [hcb] at HCT
      rw [hcb]
      have HCB : Hid _ := hcb
      clear hcb
      go_enter Tryz.func26, Tryz.ntmps26
      go_wp2_with fail
      refine hW.mono ?_
      rintro e w1 ⟨v1, rfl, ⟨sl, c, f, x, y, rfl, hsl⟩, hk1⟩
      have HSL : Hid _ := hsl
      have x5 := Cells.new w1 76 #[.int .i64 (sto : Nat), .func (.func of) #[] #[], .int .i64 lea, .int .i64 mos, .slice sl SL.length c, .func f x y]
      have ka : Kept w1 (w1.alloc (.cells #[.int .i64 (sto : Nat), .func (.func of) #[] #[], .int .i64 lea, .int .i64 mos, .slice sl SL.length c, .func f x y] 76)) := Kept.alloc (Below.refl _ _) _
      have K1 := hk1.trans ka
      have b1 := b0.kept K1
      have c0 := b1.cell 0; have c1 := b1.cell 1; have c2 := b1.cell 2; have c3 := b1.cell 3
      simp at c0 c1 c2 c3
      have hO := HOW.out _ K1
      clear hsl hW
      cases ob with
      | false =>
        have HX : Hid ((false && (cb && okK op 0 ks)) = false) := rfl
        go_wp2_with fail
        refine hO.mono ?_
        rintro e w2 ⟨rfl, hk2⟩
        go_wp2_with fail
        go_ret
        exact ⟨by rw [HX.out]; rfl, k0.trans (K1.trans hk2)⟩
      | true =>
        go_wp2_with fail
        refine hO.mono ?_
        rintro e w2 ⟨rfl, hk2⟩
        have K2 := K1.trans hk2
        have b2 := b0.kept K2
        have y2 := x5.kept hk2
        have c0 := b2.cell 0; have c1 := b2.cell 1; have c2 := b2.cell 2; have c3 := b2.cell 3
        have d0 := y2.cell 0; have d1 := y2.cell 1; have d2 := y2.cell 2; have d3 := y2.cell 3; have d4 := y2.cell 4
        simp at c0 c1 c2 c3 d0 d1 d2 d3 d4
        have hN := count_ok w2 lea mos ((ks.length : Nat) : Int) sl SL.length c
        rw [HCT.out] at hN
        clear hO
        cases cb with
        | false =>
          have HX : Hid ((true && (false && okK op 0 ks)) = false) := rfl
          go_wp2_with fail
          refine hN.mono ?_
          rintro e w3 ⟨rfl, hk3⟩
          go_wp2_with fail
          go_ret
          exact ⟨by rw [HX.out]; rfl, k0.trans (K2.trans hk3)⟩
        | true =>
          have HX : Hid ((true && (true && okK op 0 ks)) = okK op 0 ks) := rfl
          go_wp2_with fail
          refine hN.mono ?_
          rintro e w3 ⟨rfl, hk3⟩
          have K3 := K2.trans hk3
          have k13 : Kept (w1.alloc (.cells #[.int .i64 (sto : Nat), .func (.func of) #[] #[], .int .i64 lea, .int .i64 mos, .slice sl SL.length c, .func f x y] 76)) w3 := hk2.trans hk3
          have HS3 : Hid (SL = [] ∨ ∃ g, sl = some ⟨g, 0, none⟩ ∧ ∀ (j : Nat) x, SL[j]? = some x → w3.cell? ⟨g, j, none⟩ = some (.int .i64 x)) := by
            rcases HSL.out with h | ⟨g, h, h'⟩
            · exact .inl h
            · exact .inr ⟨g, h, fun j x hx => kept_cell (ka.trans k13) (h' j x hx)⟩
          have b3 := b0.kept K3
          have y3 := x5.kept k13
          have K03 : Kept w w3 := k0.trans K3
          obtain ⟨X5, hX5⟩ : ∃ X, w1.heap.size = X := ⟨_, rfl⟩
          rw [hX5] at y3
          clear hN c0 c1 c2 c3 d0 d1 d2 d3 d4 b1 b2 y2 x5 HSL hk1 hk2 hk3 ka k13 K1 K2
          simp only [hX5]
          clear hX5
          have c3 := b3.cell 3
          simp at c3
          go_wp2_with fail
          go_loopw [34] (fun iv wr => ∃ (k : Nat), iv = .int .i64 k ∧ k ≤ ks.length ∧ Hid (∀ j x, j < k → ks[j]? = some x → stOk (wantAt op j) x = true) ∧ Hid (Kept w3 wr)) (fun i _ => ks.length - (intOf i).toNat)
          case atStart => exact ⟨0, rfl, Nat.zero_le _, fun j x h => absurd h (Nat.not_lt_zero _), Below.refl _ _⟩
          case round =>
            obtain ⟨k, rfl, hk, hP, hK⟩ := hrel
            by_cases hlt : k < ks.length
            · have r2 : (k : Int) < (ks.length : Int) := by omega
              have q9 : (k : Int) + 1 ≤ 9223372036854775807 := by omega
              obtain ⟨x2, hx⟩ : ∃ x, ks[k]? = some x := ⟨ks[k], List.getElem?_eq_getElem hlt⟩
              have hxs := size_mem hx
              have hxb := bulk_mem hx
              obtain ⟨b, off, a2, cq, rfl, g0, g1, g2, g3, hv⟩ := kid_at HKS.out (K03.trans hK.out) hx
              have hwi := want_in op k
              obtain ⟨hS1, hS2, hS3⟩ := HAT.out k hlt HCB.out
              obtain ⟨g, rfl, hgc⟩ : ∃ g, sl = some ⟨g, 0, none⟩ ∧ ∀ (j : Nat) x, SL[j]? = some x → w3.cell? ⟨g, j, none⟩ = some (.int .i64 x) := by
                rcases HS3.out with h | h
                · rw [h] at hS1; simp at hS1
                · exact h
              have hgx := hgc _ _ hS3
              have hC := fun u (hu : Kept w3 u) => at_ok u lea mos ((wantAt op k : Nat) : Int) g SL.length c k hS1 (by omega) (kept_cell hu hgx)
              have hI0 := HIH.out x2 (by omega) (by omega) (by omega) (wantAt op k) hwi.1 hwi.2
              have hI := fun u (hu : Kept wr u) => hI0 u base _ (HEk.out.kept ((K03.trans hK.out).trans hu)) (hv.kept hu)
              have HX2 : Hid _ := hx
              obtain ⟨xo, hxo⟩ : ∃ o, x2.op = o := ⟨_, rfl⟩
              obtain ⟨xs, hxs'⟩ : ∃ o, x2.s = o := ⟨_, rfl⟩
              obtain ⟨xn, hxn⟩ : ∃ o, x2.n = o := ⟨_, rfl⟩
              obtain ⟨xl, hxl⟩ : ∃ o, x2.kids.length = o := ⟨_, rfl⟩
              obtain ⟨wk, hwk⟩ : ∃ o, wantAt op k = o := ⟨_, rfl⟩
              obtain ⟨xb, hxb'⟩ : ∃ o, stOk wk x2 = o := ⟨_, rfl⟩
              simp only [hxo, hxs', hxn, hxl, hwk, hxb'] at hI
              simp only [hwk] at hC
              rw [hxo] at g0
              rw [hxs'] at g1
              rw [hxn] at g2
              rw [hxl] at g3
              have HXB : Hid (stOk (wantAt op k) x2 = xb) := by rw [Hid, hwk]; exact hxb'
              clear hI0 hx hxs hxb hv hwi hS1 hS2 hS3 hgx hgc hxo hxs' hxn hxl hwk hxb'
              have kk : Kept wr (wr.alloc (.cells #[.int .i64 xo, .string xs, .int .i64 xn, .slice a2 xl cq] 29)).drew := (Kept.alloc (Below.refl _ _) _).drew
              have n0 := Cells.new wr 29 #[.int .i64 xo, .string xs, .int .i64 xn, .slice a2 xl cq]
              have n1 : Cells (wr.alloc (.cells #[.int .i64 xo, .string xs, .int .i64 xn, .slice a2 xl cq] 29)).drew wr.heap.size 29 #[.int .i64 xo, .string xs, .int .i64 xn, .slice a2 xl cq] := n0
              have y4 := (y3.kept hK.out).kept kk
              have d2 := y4.cell 2; have d3 := y4.cell 3; have d4 := y4.cell 4
              simp at d2 d3 d4
              have hC1 := hC _ (hK.out.trans kk)
              clear hC
              cases xb with
              | false =>
                have HF : Hid (okK op 0 ks = false) := by
                  cases h : okK op 0 ks with
                  | false => rfl
                  | true =>
                    have h2 := (okK_iff ks 0).1 h k x2 HX2.out
                    rw [Nat.zero_add, HXB.out] at h2
                    cases h2
                go_wp2_with fail
                go_region_with (first
                  | (have _tk := k5; go_at_call 26; refine (hI _ (kk.trans k5)).mono ?_; rintro e w6 ⟨rfl, k6⟩)
                  | (go_at_call 42; refine hC1.mono ?_; rintro e w5 ⟨rfl, k5⟩; have n5 := n1.kept k5; have m0 := n5.cell 0; have m1 := n5.cell 1; have m2 := n5.cell 2; have m3 := n5.cell 3; simp at m0 m1 m2 m3))
                all_goals (
                  have HKK : Hid (Kept w3 w6) := ((hK.out.trans kk).trans k5).trans k6
                  clear hI hC1 hCF
                  go_simp
                  go_wp2_with fail
                  go_ret
                  exact ⟨by first | (rw [HX.out, HF.out]; rfl) | (rw [HF.out]; rfl), K03.trans HKK.out⟩)
              | true =>
                have HA : Hid (∀ j x, j < k + 1 → ks[j]? = some x → stOk (wantAt op j) x = true) := fun j x hj hx => by
                  rcases Nat.lt_or_ge j k with h | h
                  · exact hP.out j x h hx
                  · obtain rfl : j = k := by omega
                    rw [HX2.out] at hx
                    cases hx
                    exact HXB.out
                go_wp2_with fail
                go_region_with (first
                  | (have _tk := k5; go_at_call 26; refine (hI _ (kk.trans k5)).mono ?_; rintro e w6 ⟨rfl, k6⟩)
                  | (go_at_call 42; refine hC1.mono ?_; rintro e w5 ⟨rfl, k5⟩; have n5 := n1.kept k5; have m0 := n5.cell 0; have m1 := n5.cell 1; have m2 := n5.cell 2; have m3 := n5.cell 3; simp at m0 m1 m2 m3))
                all_goals (
                  have HKK : Hid (Kept w3 w6) := ((hK.out.trans kk).trans k5).trans k6
                  clear hI hC1 hCF
                  go_simp
                  go_wp2_with fail
                  exact ⟨⟨k + 1, by go_num, by omega, HA.out, HKK.out⟩, by simp [intOf]; omega⟩)
            · have r2 : ¬ (k : Int) < (ks.length : Int) := by omega
              have HF : Hid (okK op 0 ks = true) := (okK_iff ks 0).2 (fun j x hx => by
                rw [Nat.zero_add]
                have := (List.getElem?_eq_some_iff.1 hx).1
                exact hP.out j x (by omega) hx)
              go_wp2_with fail
              go_ret
              exact ⟨by first | (rw [HX.out, HF.out]; rfl) | (rw [HF.out]; rfl), K03.trans hK.out⟩
    · have HX : Hid ((decide (st op = a) && (ownB op s n && (countB op ks.length && okK op 0 ks))) = false) := by rw [Hid, decide_eq_false hst]; rfl
      have q : (((st op : Nat) : Int) != ((a : Nat) : Int)) = true := by simp only [bne_iff_ne, ne_eq]; omega
      obtain ⟨sto, hsto⟩ : ∃ x, st op = x := ⟨_, rfl⟩
      rw [hsto] at hW q
      clear hst hsto
      go_enter Tryz.func26, Tryz.ntmps26
      go_wp2_with fail
      refine hW.mono ?_
      rintro e w1 ⟨v1, rfl, ⟨sl, c, f, x, y, rfl, hsl⟩, hk1⟩
      clear hsl hW
      go_wp2_with fail
      go_ret
      exact ⟨by rw [HX.out]; rfl, (k0.trans hk1).alloc _⟩
  · have hW := writer_none hr (w.alloc (.cells #[.int .i64 op, .string s, .int .i64 n, .slice ao ks.length cap] 29))
    have hst : st op ≠ a := by
      intro h
      unfold st at h
      (repeat' split at h) <;> omega
    have HX : Hid ((decide (st op = a) && (ownB op s n && (countB op ks.length && okK op 0 ks))) = false) := by rw [Hid, decide_eq_false hst]; rfl
    have q : ((0 : Int) != ((a : Nat) : Int)) = true := by simp only [bne_iff_ne, ne_eq]; omega
    clear hst hr
    go_enter Tryz.func26, Tryz.ntmps26
    go_wp2_with fail
    refine hW.mono ?_
    rintro e w1 ⟨rfl, hk1⟩
    clear hW
    go_wp2_with fail
    go_ret
    exact ⟨by rw [HX.out]; rfl, (k0.trans hk1).alloc _⟩
theorem stands_ok : ∀ m, StCd m
  | 0 => fun t ht => by have := t.size_pos; omega
  | m + 1 => stands_step m (stands_ok m)
set_option maxHeartbeats 16000000 in
set_option maxRecDepth 100000 in
theorem impl_NodeOk_ok (t : Nd) (hb : t.bulk ≤ 1048576) (w : World) (hE : EnvA w) (base : Nat) (hb1 : 1 ≤ base) (v : Value) (hv : NdV w base t v) :
    Calls Tryz.prog 18 #[v] w fun e w' => e = .returned (.bool (nodeR t)) ∧ Kept w w' := by
  have hsz := t.size_le
  obtain ⟨op, s, n, ao, l, cap, rfl⟩ := hv.four
  have hop : t.op = op := by
    cases t with
    | mk op' s' n' ks' =>
      rw [NdV] at hv
      obtain ⟨ao', cap', e, _⟩ := hv
      injection e with e
      have e3 := congrArg Array.toList e
      simp at e3
      exact e3.1.symm
  have hX := extentOf_ok _ t _ (hv.boxed (ty := 29) hb1) (by omega)
  have b0 := Cells.new w 29 #[.int .i64 op, .string s, .int .i64 n, .slice ao l cap]
  have k0 : Kept w (w.alloc (.cells #[.int .i64 op, .string s, .int .i64 n, .slice ao l cap] 29)) := Kept.alloc (Below.refl _ _) _
  have HS : Hid (t.size ≤ 200 → ∀ u, Kept w u → Calls Tryz.prog 26 #[.agg #[.int .i64 op, .string s, .int .i64 n, .slice ao l cap], .int .i64 1] u fun e w' => e = .returned (.bool (stOk 1 t)) ∧ Kept u w') := fun h u hu => stands_ok _ t (Nat.le_refl _) h hb 1 (by decide) (by decide) u base _ (hE.kept hu) (hv.kept hu)
  have HR : Hid (nodeR t = (decide (t.deep ≤ 20) && (decide (t.size ≤ 200) && stOk 1 t))) := by
    rw [Hid, nodeR, stOk]
    have h1 := @st_op t.op
    by_cases h : t.op = 1
    · rw [decide_eq_true h, decide_eq_true (h1.1.2 h)]; simp
    · rw [decide_eq_false h, decide_eq_false (fun e => h (h1.1.1 e))]; simp
  obtain ⟨x, hx⟩ : ∃ x, stOk 1 t = x := ⟨_, rfl⟩
  obtain ⟨D, hD⟩ : ∃ D, t.deep = D := ⟨_, rfl⟩
  obtain ⟨Z, hZ⟩ : ∃ D, t.size = D := ⟨_, rfl⟩
  rw [hx, hZ] at HS
  rw [hx, hD, hZ] at HR
  rw [hD, hZ] at hX
  clear hx hD hZ hb hsz hop hv hE
  by_cases h3 : Z ≤ 200
  · have q3 : ((Z : Nat) : Int) ≤ 200 := by omega
    rw [decide_eq_true h3] at HR
    have hS := HS.out h3
    by_cases h2 : D ≤ 20
    · have q2 : ((D : Nat) : Int) ≤ 20 := by omega
      rw [decide_eq_true h2] at HR
      clear h2 h3
      go_enter Tryz.func18, Tryz.ntmps18
      go_wp2_with fail
      refine hX.mono ?_
      rintro e w1 ⟨rfl, hk1⟩
      have ka : Kept w1 (w1.alloc (.cells #[.int .i64 (Z : Nat), .int .i64 (D : Nat)] 50)) := Kept.alloc (Below.refl _ _) _
      have b1 := (b0.kept hk1).kept ka
      have c0 := b1.cell 0; have c1 := b1.cell 1; have c2 := b1.cell 2; have c3 := b1.cell 3
      simp at c0 c1 c2 c3
      have hS1 := hS _ ((k0.trans hk1).trans ka)
      clear hX hS
      go_wp2_with (go_at_call 26; refine hS1.mono ?_; rintro e w2 ⟨rfl, hk2⟩)
      go_ret
      exact ⟨by rw [HR.out]; rfl, ((k0.trans hk1).trans ka).trans hk2⟩
    · have q2 : ¬ ((D : Nat) : Int) ≤ 20 := by omega
      rw [decide_eq_false h2] at HR
      clear h2 h3
      go_enter Tryz.func18, Tryz.ntmps18
      go_wp2_with fail
      refine hX.mono ?_
      rintro e w1 ⟨rfl, hk1⟩
      clear hX hS
      go_wp2_with fail
      go_ret
      exact ⟨by rw [HR.out]; rfl, (k0.trans hk1).alloc _⟩
  · have q3 : ¬ ((Z : Nat) : Int) ≤ 200 := by omega
    rw [decide_eq_false h3] at HR
    have HR2 : Hid (nodeR t = false) := by rw [Hid, HR.out]; simp
    clear h3
    go_enter Tryz.func18, Tryz.ntmps18
    go_wp2_with fail
    refine hX.mono ?_
    rintro e w1 ⟨rfl, hk1⟩
    clear hX
    go_wp2_with fail
    go_ret
    exact ⟨by rw [HR2.out]; rfl, (k0.trans hk1).alloc _⟩
end Go.Proofs.YtlinbkgeahgkjaaGreatDoor
