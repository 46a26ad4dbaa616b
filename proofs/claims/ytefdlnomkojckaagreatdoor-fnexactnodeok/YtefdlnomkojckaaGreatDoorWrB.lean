/-
  The contracts of chapter 13's writers, op by op (genWr.py).
-/
import Derived.Test.YtefdlnomkojckaaGreatDoorWrA
namespace Go.Proofs.YtefdlnomkojckaaGreatDoor
open Go.RowKit
set_option linter.unusedSimpArgs false

/-- What a writer's value tells: where the op stands, what asks for S and N, how many kids, and where they stand. -/
def WrOk (W : World) (v : Value) (stn : Nat) (own : FuncId) (least most : Int) (L : List Int) : Prop := ∃ sl c f x y, v = .agg #[.int .i64 (stn : Nat), .func (.func own) #[] #[], .int .i64 least, .int .i64 most, .slice sl L.length c, .func f x y] ∧ (L = [] ∨ ∃ g, sl = some ⟨g, 0, none⟩ ∧ ∀ (j : Nat) x, L[j]? = some x → W.cell? ⟨g, j, none⟩ = some (.int .i64 x))
theorem WrOk.kept {W W' : World} {v : Value} {stn : Nat} {own : FuncId} {least most : Int} {L : List Int} (h : WrOk W v stn own least most L) (hk : Kept W W') : WrOk W' v stn own least most L := by
  obtain ⟨sl, c, f, x, y, e, h | ⟨g, e2, h⟩⟩ := h
  · exact ⟨sl, c, f, x, y, e, .inl h⟩
  · exact ⟨sl, c, f, x, y, e, .inr ⟨g, e2, fun j z hz => kept_cell hk (h j z hz)⟩⟩
abbrev zeroW : Array Value := #[.int .i64 0, .nilFunc, .int .i64 0, .int .i64 0, .slice none 0 0, .nilFunc]
theorem kidsAs_ok (w : World) (a : Option Addr) (l c : Nat) :
    Calls Tryz.prog 46 #[.slice a l c] w fun e w' => e = .returned (.agg #[.int .i64 (l : Nat), .int .i64 (l : Nat), .slice a l c]) ∧ Kept w w' := by
  have z := Cells.new w 58 #[.int .i64 (l : Nat), .int .i64 (l : Nat), .slice a l c]
  have z0 := z.cell 0; have z1 := z.cell 1; have z2 := z.cell 2
  go_enter Tryz.func46, Tryz.ntmps46
  go_wp2_with fail
  exact bodyPost_ret (v := .agg #[.int .i64 (l : Nat), .int .i64 (l : Nat), .slice a l c]) (by simp [results, Tryz.results46, go_sem, z0, z1, z2]) rfl ⟨rfl, Kept.alloc (Below.refl _ _) _⟩
theorem atLeast_ok (w : World) (a x : Int) :
    Calls Tryz.prog 43 #[.int .i64 a, .int .i64 x] w fun e w' => ∃ g, e = .returned (.agg #[.int .i64 a, .int .i64 200, .slice (some ⟨g, 0, none⟩) 1 1]) ∧ w'.cell? ⟨g, 0, none⟩ = some (.int .i64 x) ∧ Kept w w' := by
  have z := (Cells.new w 58 #[.int .i64 a, .int .i64 200, .slice (some ⟨w.heap.size + 1, 0, none⟩) 1 1]).alloc (.cells #[.int .i64 x] 42)
  have y := Cells.new (w.alloc (.cells #[.int .i64 a, .int .i64 200, .slice (some ⟨w.heap.size + 1, 0, none⟩) 1 1] 58)) 42 #[.int .i64 x]
  simp only [World.size_alloc] at y
  have z0 := z.cell 0; have z1 := z.cell 1; have z2 := z.cell 2
  go_enter Tryz.func43, Tryz.ntmps43
  go_wp2_with fail
  exact bodyPost_ret (v := .agg #[.int .i64 a, .int .i64 200, .slice (some ⟨w.heap.size + 1, 0, none⟩) 1 1]) (by simp [results, Tryz.results43, go_sem, z0, z1, z2]) rfl ⟨_, rfl, y.cell 0, (Kept.alloc (Below.refl _ _) _).alloc _⟩
set_option maxHeartbeats 8000000 in
set_option maxRecDepth 100000 in
theorem wr_1 (w : World) : Calls Tryz.prog 31 #[.int .i64 1] w fun e w' => ∃ v, e = .returned v ∧ WrOk w' v 1 42 0 200 [2] ∧ Kept w w' := by
  have r0 := Cells.new w 61 zeroW
  have k0 : Kept w (w.alloc (.cells zeroW 61)) := Kept.alloc (Below.refl _ _) _
  have hC := atLeast_ok (w.alloc (.cells zeroW 61)) 0 2
  go_enter Tryz.func31, Tryz.ntmps31
  go_wp2_with (go_at_call 43; refine hC.mono ?_; rintro e w1 ⟨g, rfl, hg, hk1⟩; have r1 := r0.kept hk1; have d0 := r1.cell 0; have d1 := r1.cell 1; have d2 := r1.cell 2; have d3 := r1.cell 3; have d4 := r1.cell 4; have d5 := r1.cell 5; have g0 := r1.frozen 0; have g1 := r1.frozen 1; have g2 := r1.frozen 2; have g3 := r1.frozen 3; have g4 := r1.frozen 4; have g5 := r1.frozen 5; have lr := r1.lt; simp at d0 d1 d2 d3 d4 d5)
  have hgne : g ≠ w.heap.size := by
    rintro rfl
    rw [d0] at hg
    simp at hg
  have z := ((((((r1.set 0 (.int .i64 1)).set 1 (.func (.func 42) #[] #[])).set 2 (.int .i64 0)).set 3 (.int .i64 200)).set 4 (.slice (some ⟨g, 0, none⟩) 1 1)).set 5 (.func (.func 44) #[] #[]))
  have z0 := z.cell 0; have z1 := z.cell 1; have z2 := z.cell 2; have z3 := z.cell 3; have z4 := z.cell 4; have z5 := z.cell 5
  exact bodyPost_ret (v := .agg #[.int .i64 1, .func (.func 42) #[] #[], .int .i64 0, .int .i64 200, .slice (some ⟨g, 0, none⟩) 1 1, .func (.func 44) #[] #[]]) (by simp [results, Tryz.results31, go_sem, z0, z1, z2, z3, z4, z5]) rfl ⟨_, rfl, ⟨_, _, _, _, _, rfl, .inr ⟨_, rfl, fun j x hx => by match j, hx with | 0, h => simp at h; subst h; exact (World.cell?_setCell_other _ _ _ _ (by intro e; have := congrArg Addr.block e; simp at this; exact hgne this.symm)).trans ((World.cell?_setCell_other _ _ _ _ (by intro e; have := congrArg Addr.block e; simp at this; exact hgne this.symm)).trans ((World.cell?_setCell_other _ _ _ _ (by intro e; have := congrArg Addr.block e; simp at this; exact hgne this.symm)).trans ((World.cell?_setCell_other _ _ _ _ (by intro e; have := congrArg Addr.block e; simp at this; exact hgne this.symm)).trans ((World.cell?_setCell_other _ _ _ _ (by intro e; have := congrArg Addr.block e; simp at this; exact hgne this.symm)).trans ((World.cell?_setCell_other _ _ _ _ (by intro e; have := congrArg Addr.block e; simp at this; exact hgne this.symm)).trans (hg)))))) | n + 1, h => simp at h⟩⟩, (((((((k0.trans hk1).set (by simp) _).set (by simp) _).set (by simp) _).set (by simp) _).set (by simp) _).set (by simp) _)⟩
set_option maxHeartbeats 8000000 in
set_option maxRecDepth 100000 in
theorem wr_2 (w : World) : Calls Tryz.prog 31 #[.int .i64 2] w fun e w' => ∃ v, e = .returned v ∧ WrOk w' v 2 45 1 1 [3] ∧ Kept w w' := by
  have r0 := Cells.new w 61 zeroW
  have k0 : Kept w (w.alloc (.cells zeroW 61)) := Kept.alloc (Below.refl _ _) _
  have s0 := Cells.new (w.alloc (.cells zeroW 61)) 42 #[.int .i64 3]
  simp only [World.size_alloc] at s0
  have r0 := r0.alloc (.cells #[.int .i64 3] 42)
  have k0 : Kept w ((w.alloc (.cells zeroW 61)).alloc (.cells #[.int .i64 3] 42)) := k0.alloc _
  have hC := kidsAs_ok ((w.alloc (.cells zeroW 61)).alloc (.cells #[.int .i64 3] 42)) (some ⟨w.heap.size + 1, 0, none⟩) 1 1
  go_enter Tryz.func31, Tryz.ntmps31
  go_wp2_with (go_at_call 46; refine hC.mono ?_; rintro e w1 ⟨rfl, hk1⟩; have s1 := s0.kept hk1; have r1 := r0.kept hk1; have d0 := r1.cell 0; have d1 := r1.cell 1; have d2 := r1.cell 2; have d3 := r1.cell 3; have d4 := r1.cell 4; have d5 := r1.cell 5; have g0 := r1.frozen 0; have g1 := r1.frozen 1; have g2 := r1.frozen 2; have g3 := r1.frozen 3; have g4 := r1.frozen 4; have g5 := r1.frozen 5; have lr := r1.lt; simp at d0 d1 d2 d3 d4 d5)
  have z := ((((((r1.set 0 (.int .i64 2)).set 1 (.func (.func 45) #[] #[])).set 2 (.int .i64 1)).set 3 (.int .i64 1)).set 4 (.slice (some ⟨w.heap.size + 1, 0, none⟩) 1 1)).set 5 (.func (.func 47) #[] #[]))
  have z0 := z.cell 0; have z1 := z.cell 1; have z2 := z.cell 2; have z3 := z.cell 3; have z4 := z.cell 4; have z5 := z.cell 5
  exact bodyPost_ret (v := .agg #[.int .i64 2, .func (.func 45) #[] #[], .int .i64 1, .int .i64 1, .slice (some ⟨w.heap.size + 1, 0, none⟩) 1 1, .func (.func 47) #[] #[]]) (by simp [results, Tryz.results31, go_sem, z0, z1, z2, z3, z4, z5]) rfl ⟨_, rfl, ⟨_, _, _, _, _, rfl, .inr ⟨_, rfl, fun j x hx => (((((((s1.other (p := ⟨w.heap.size, 0, none⟩) (by simp) _).other (p := ⟨w.heap.size, 1, none⟩) (by simp) _).other (p := ⟨w.heap.size, 2, none⟩) (by simp) _).other (p := ⟨w.heap.size, 3, none⟩) (by simp) _).other (p := ⟨w.heap.size, 4, none⟩) (by simp) _).other (p := ⟨w.heap.size, 5, none⟩) (by simp) _).cell j).trans (by match j, hx with | 0, h => simp at h; subst h; rfl | n + 1, h => simp at h)⟩⟩, (((((((k0.trans hk1).set (by simp) _).set (by simp) _).set (by simp) _).set (by simp) _).set (by simp) _).set (by simp) _)⟩
set_option maxHeartbeats 8000000 in
set_option maxRecDepth 100000 in
theorem wr_3 (w : World) : Calls Tryz.prog 31 #[.int .i64 3] w fun e w' => ∃ v, e = .returned v ∧ WrOk w' v 2 45 1 1 [3] ∧ Kept w w' := by
  have r0 := Cells.new w 61 zeroW
  have k0 : Kept w (w.alloc (.cells zeroW 61)) := Kept.alloc (Below.refl _ _) _
  have s0 := Cells.new (w.alloc (.cells zeroW 61)) 42 #[.int .i64 3]
  simp only [World.size_alloc] at s0
  have r0 := r0.alloc (.cells #[.int .i64 3] 42)
  have k0 : Kept w ((w.alloc (.cells zeroW 61)).alloc (.cells #[.int .i64 3] 42)) := k0.alloc _
  have hC := kidsAs_ok ((w.alloc (.cells zeroW 61)).alloc (.cells #[.int .i64 3] 42)) (some ⟨w.heap.size + 1, 0, none⟩) 1 1
  go_enter Tryz.func31, Tryz.ntmps31
  go_wp2_with (go_at_call 46; refine hC.mono ?_; rintro e w1 ⟨rfl, hk1⟩; have s1 := s0.kept hk1; have r1 := r0.kept hk1; have d0 := r1.cell 0; have d1 := r1.cell 1; have d2 := r1.cell 2; have d3 := r1.cell 3; have d4 := r1.cell 4; have d5 := r1.cell 5; have g0 := r1.frozen 0; have g1 := r1.frozen 1; have g2 := r1.frozen 2; have g3 := r1.frozen 3; have g4 := r1.frozen 4; have g5 := r1.frozen 5; have lr := r1.lt; simp at d0 d1 d2 d3 d4 d5)
  have z := ((((((r1.set 0 (.int .i64 2)).set 1 (.func (.func 45) #[] #[])).set 2 (.int .i64 1)).set 3 (.int .i64 1)).set 4 (.slice (some ⟨w.heap.size + 1, 0, none⟩) 1 1)).set 5 (.func (.func 48) #[] #[]))
  have z0 := z.cell 0; have z1 := z.cell 1; have z2 := z.cell 2; have z3 := z.cell 3; have z4 := z.cell 4; have z5 := z.cell 5
  exact bodyPost_ret (v := .agg #[.int .i64 2, .func (.func 45) #[] #[], .int .i64 1, .int .i64 1, .slice (some ⟨w.heap.size + 1, 0, none⟩) 1 1, .func (.func 48) #[] #[]]) (by simp [results, Tryz.results31, go_sem, z0, z1, z2, z3, z4, z5]) rfl ⟨_, rfl, ⟨_, _, _, _, _, rfl, .inr ⟨_, rfl, fun j x hx => (((((((s1.other (p := ⟨w.heap.size, 0, none⟩) (by simp) _).other (p := ⟨w.heap.size, 1, none⟩) (by simp) _).other (p := ⟨w.heap.size, 2, none⟩) (by simp) _).other (p := ⟨w.heap.size, 3, none⟩) (by simp) _).other (p := ⟨w.heap.size, 4, none⟩) (by simp) _).other (p := ⟨w.heap.size, 5, none⟩) (by simp) _).cell j).trans (by match j, hx with | 0, h => simp at h; subst h; rfl | n + 1, h => simp at h)⟩⟩, (((((((k0.trans hk1).set (by simp) _).set (by simp) _).set (by simp) _).set (by simp) _).set (by simp) _).set (by simp) _)⟩
set_option maxHeartbeats 8000000 in
set_option maxRecDepth 100000 in
theorem wr_4 (w : World) : Calls Tryz.prog 31 #[.int .i64 4] w fun e w' => ∃ v, e = .returned v ∧ WrOk w' v 2 49 2 2 [3, 3] ∧ Kept w w' := by
  have r0 := Cells.new w 61 zeroW
  have k0 : Kept w (w.alloc (.cells zeroW 61)) := Kept.alloc (Below.refl _ _) _
  have s0 := Cells.new (w.alloc (.cells zeroW 61)) 42 #[.int .i64 3, .int .i64 3]
  simp only [World.size_alloc] at s0
  have r0 := r0.alloc (.cells #[.int .i64 3, .int .i64 3] 42)
  have k0 : Kept w ((w.alloc (.cells zeroW 61)).alloc (.cells #[.int .i64 3, .int .i64 3] 42)) := k0.alloc _
  have hC := kidsAs_ok ((w.alloc (.cells zeroW 61)).alloc (.cells #[.int .i64 3, .int .i64 3] 42)) (some ⟨w.heap.size + 1, 0, none⟩) 2 2
  go_enter Tryz.func31, Tryz.ntmps31
  go_wp2_with (go_at_call 46; refine hC.mono ?_; rintro e w1 ⟨rfl, hk1⟩; have s1 := s0.kept hk1; have r1 := r0.kept hk1; have d0 := r1.cell 0; have d1 := r1.cell 1; have d2 := r1.cell 2; have d3 := r1.cell 3; have d4 := r1.cell 4; have d5 := r1.cell 5; have g0 := r1.frozen 0; have g1 := r1.frozen 1; have g2 := r1.frozen 2; have g3 := r1.frozen 3; have g4 := r1.frozen 4; have g5 := r1.frozen 5; have lr := r1.lt; simp at d0 d1 d2 d3 d4 d5)
  have z := ((((((r1.set 0 (.int .i64 2)).set 1 (.func (.func 49) #[] #[])).set 2 (.int .i64 2)).set 3 (.int .i64 2)).set 4 (.slice (some ⟨w.heap.size + 1, 0, none⟩) 2 2)).set 5 (.func (.func 50) #[] #[]))
  have z0 := z.cell 0; have z1 := z.cell 1; have z2 := z.cell 2; have z3 := z.cell 3; have z4 := z.cell 4; have z5 := z.cell 5
  exact bodyPost_ret (v := .agg #[.int .i64 2, .func (.func 49) #[] #[], .int .i64 2, .int .i64 2, .slice (some ⟨w.heap.size + 1, 0, none⟩) 2 2, .func (.func 50) #[] #[]]) (by simp [results, Tryz.results31, go_sem, z0, z1, z2, z3, z4, z5]) rfl ⟨_, rfl, ⟨_, _, _, _, _, rfl, .inr ⟨_, rfl, fun j x hx => (((((((s1.other (p := ⟨w.heap.size, 0, none⟩) (by simp) _).other (p := ⟨w.heap.size, 1, none⟩) (by simp) _).other (p := ⟨w.heap.size, 2, none⟩) (by simp) _).other (p := ⟨w.heap.size, 3, none⟩) (by simp) _).other (p := ⟨w.heap.size, 4, none⟩) (by simp) _).other (p := ⟨w.heap.size, 5, none⟩) (by simp) _).cell j).trans (by match j, hx with | 0, h => simp at h; subst h; rfl | 1, h => simp at h; subst h; rfl | n + 2, h => simp at h)⟩⟩, (((((((k0.trans hk1).set (by simp) _).set (by simp) _).set (by simp) _).set (by simp) _).set (by simp) _).set (by simp) _)⟩
set_option maxHeartbeats 8000000 in
set_option maxRecDepth 100000 in
theorem wr_6 (w : World) : Calls Tryz.prog 31 #[.int .i64 6] w fun e w' => ∃ v, e = .returned v ∧ WrOk w' v 2 42 2 2 [3, 1] ∧ Kept w w' := by
  have r0 := Cells.new w 61 zeroW
  have k0 : Kept w (w.alloc (.cells zeroW 61)) := Kept.alloc (Below.refl _ _) _
  have s0 := Cells.new (w.alloc (.cells zeroW 61)) 42 #[.int .i64 3, .int .i64 1]
  simp only [World.size_alloc] at s0
  have r0 := r0.alloc (.cells #[.int .i64 3, .int .i64 1] 42)
  have k0 : Kept w ((w.alloc (.cells zeroW 61)).alloc (.cells #[.int .i64 3, .int .i64 1] 42)) := k0.alloc _
  have hC := kidsAs_ok ((w.alloc (.cells zeroW 61)).alloc (.cells #[.int .i64 3, .int .i64 1] 42)) (some ⟨w.heap.size + 1, 0, none⟩) 2 2
  go_enter Tryz.func31, Tryz.ntmps31
  go_wp2_with (go_at_call 46; refine hC.mono ?_; rintro e w1 ⟨rfl, hk1⟩; have s1 := s0.kept hk1; have r1 := r0.kept hk1; have d0 := r1.cell 0; have d1 := r1.cell 1; have d2 := r1.cell 2; have d3 := r1.cell 3; have d4 := r1.cell 4; have d5 := r1.cell 5; have g0 := r1.frozen 0; have g1 := r1.frozen 1; have g2 := r1.frozen 2; have g3 := r1.frozen 3; have g4 := r1.frozen 4; have g5 := r1.frozen 5; have lr := r1.lt; simp at d0 d1 d2 d3 d4 d5)
  have z := ((((((r1.set 0 (.int .i64 2)).set 1 (.func (.func 42) #[] #[])).set 2 (.int .i64 2)).set 3 (.int .i64 2)).set 4 (.slice (some ⟨w.heap.size + 1, 0, none⟩) 2 2)).set 5 (.func (.func 52) #[] #[]))
  have z0 := z.cell 0; have z1 := z.cell 1; have z2 := z.cell 2; have z3 := z.cell 3; have z4 := z.cell 4; have z5 := z.cell 5
  exact bodyPost_ret (v := .agg #[.int .i64 2, .func (.func 42) #[] #[], .int .i64 2, .int .i64 2, .slice (some ⟨w.heap.size + 1, 0, none⟩) 2 2, .func (.func 52) #[] #[]]) (by simp [results, Tryz.results31, go_sem, z0, z1, z2, z3, z4, z5]) rfl ⟨_, rfl, ⟨_, _, _, _, _, rfl, .inr ⟨_, rfl, fun j x hx => (((((((s1.other (p := ⟨w.heap.size, 0, none⟩) (by simp) _).other (p := ⟨w.heap.size, 1, none⟩) (by simp) _).other (p := ⟨w.heap.size, 2, none⟩) (by simp) _).other (p := ⟨w.heap.size, 3, none⟩) (by simp) _).other (p := ⟨w.heap.size, 4, none⟩) (by simp) _).other (p := ⟨w.heap.size, 5, none⟩) (by simp) _).cell j).trans (by match j, hx with | 0, h => simp at h; subst h; rfl | 1, h => simp at h; subst h; rfl | n + 2, h => simp at h)⟩⟩, (((((((k0.trans hk1).set (by simp) _).set (by simp) _).set (by simp) _).set (by simp) _).set (by simp) _).set (by simp) _)⟩
set_option maxHeartbeats 8000000 in
set_option maxRecDepth 100000 in
theorem wr_7 (w : World) : Calls Tryz.prog 31 #[.int .i64 7] w fun e w' => ∃ v, e = .returned v ∧ WrOk w' v 2 42 1 1 [3] ∧ Kept w w' := by
  have r0 := Cells.new w 61 zeroW
  have k0 : Kept w (w.alloc (.cells zeroW 61)) := Kept.alloc (Below.refl _ _) _
  have s0 := Cells.new (w.alloc (.cells zeroW 61)) 42 #[.int .i64 3]
  simp only [World.size_alloc] at s0
  have r0 := r0.alloc (.cells #[.int .i64 3] 42)
  have k0 : Kept w ((w.alloc (.cells zeroW 61)).alloc (.cells #[.int .i64 3] 42)) := k0.alloc _
  have hC := kidsAs_ok ((w.alloc (.cells zeroW 61)).alloc (.cells #[.int .i64 3] 42)) (some ⟨w.heap.size + 1, 0, none⟩) 1 1
  go_enter Tryz.func31, Tryz.ntmps31
  go_wp2_with (go_at_call 46; refine hC.mono ?_; rintro e w1 ⟨rfl, hk1⟩; have s1 := s0.kept hk1; have r1 := r0.kept hk1; have d0 := r1.cell 0; have d1 := r1.cell 1; have d2 := r1.cell 2; have d3 := r1.cell 3; have d4 := r1.cell 4; have d5 := r1.cell 5; have g0 := r1.frozen 0; have g1 := r1.frozen 1; have g2 := r1.frozen 2; have g3 := r1.frozen 3; have g4 := r1.frozen 4; have g5 := r1.frozen 5; have lr := r1.lt; simp at d0 d1 d2 d3 d4 d5)
  have z := ((((((r1.set 0 (.int .i64 2)).set 1 (.func (.func 42) #[] #[])).set 2 (.int .i64 1)).set 3 (.int .i64 1)).set 4 (.slice (some ⟨w.heap.size + 1, 0, none⟩) 1 1)).set 5 (.func (.func 53) #[] #[]))
  have z0 := z.cell 0; have z1 := z.cell 1; have z2 := z.cell 2; have z3 := z.cell 3; have z4 := z.cell 4; have z5 := z.cell 5
  exact bodyPost_ret (v := .agg #[.int .i64 2, .func (.func 42) #[] #[], .int .i64 1, .int .i64 1, .slice (some ⟨w.heap.size + 1, 0, none⟩) 1 1, .func (.func 53) #[] #[]]) (by simp [results, Tryz.results31, go_sem, z0, z1, z2, z3, z4, z5]) rfl ⟨_, rfl, ⟨_, _, _, _, _, rfl, .inr ⟨_, rfl, fun j x hx => (((((((s1.other (p := ⟨w.heap.size, 0, none⟩) (by simp) _).other (p := ⟨w.heap.size, 1, none⟩) (by simp) _).other (p := ⟨w.heap.size, 2, none⟩) (by simp) _).other (p := ⟨w.heap.size, 3, none⟩) (by simp) _).other (p := ⟨w.heap.size, 4, none⟩) (by simp) _).other (p := ⟨w.heap.size, 5, none⟩) (by simp) _).cell j).trans (by match j, hx with | 0, h => simp at h; subst h; rfl | n + 1, h => simp at h)⟩⟩, (((((((k0.trans hk1).set (by simp) _).set (by simp) _).set (by simp) _).set (by simp) _).set (by simp) _).set (by simp) _)⟩
set_option maxHeartbeats 8000000 in
set_option maxRecDepth 100000 in
theorem wr_8 (w : World) : Calls Tryz.prog 31 #[.int .i64 8] w fun e w' => ∃ v, e = .returned v ∧ WrOk w' v 2 42 1 1 [3] ∧ Kept w w' := by
  have r0 := Cells.new w 61 zeroW
  have k0 : Kept w (w.alloc (.cells zeroW 61)) := Kept.alloc (Below.refl _ _) _
  have s0 := Cells.new (w.alloc (.cells zeroW 61)) 42 #[.int .i64 3]
  simp only [World.size_alloc] at s0
  have r0 := r0.alloc (.cells #[.int .i64 3] 42)
  have k0 : Kept w ((w.alloc (.cells zeroW 61)).alloc (.cells #[.int .i64 3] 42)) := k0.alloc _
  have hC := kidsAs_ok ((w.alloc (.cells zeroW 61)).alloc (.cells #[.int .i64 3] 42)) (some ⟨w.heap.size + 1, 0, none⟩) 1 1
  go_enter Tryz.func31, Tryz.ntmps31
  go_wp2_with (go_at_call 46; refine hC.mono ?_; rintro e w1 ⟨rfl, hk1⟩; have s1 := s0.kept hk1; have r1 := r0.kept hk1; have d0 := r1.cell 0; have d1 := r1.cell 1; have d2 := r1.cell 2; have d3 := r1.cell 3; have d4 := r1.cell 4; have d5 := r1.cell 5; have g0 := r1.frozen 0; have g1 := r1.frozen 1; have g2 := r1.frozen 2; have g3 := r1.frozen 3; have g4 := r1.frozen 4; have g5 := r1.frozen 5; have lr := r1.lt; simp at d0 d1 d2 d3 d4 d5)
  have z := ((((((r1.set 0 (.int .i64 2)).set 1 (.func (.func 42) #[] #[])).set 2 (.int .i64 1)).set 3 (.int .i64 1)).set 4 (.slice (some ⟨w.heap.size + 1, 0, none⟩) 1 1)).set 5 (.func (.func 54) #[] #[]))
  have z0 := z.cell 0; have z1 := z.cell 1; have z2 := z.cell 2; have z3 := z.cell 3; have z4 := z.cell 4; have z5 := z.cell 5
  exact bodyPost_ret (v := .agg #[.int .i64 2, .func (.func 42) #[] #[], .int .i64 1, .int .i64 1, .slice (some ⟨w.heap.size + 1, 0, none⟩) 1 1, .func (.func 54) #[] #[]]) (by simp [results, Tryz.results31, go_sem, z0, z1, z2, z3, z4, z5]) rfl ⟨_, rfl, ⟨_, _, _, _, _, rfl, .inr ⟨_, rfl, fun j x hx => (((((((s1.other (p := ⟨w.heap.size, 0, none⟩) (by simp) _).other (p := ⟨w.heap.size, 1, none⟩) (by simp) _).other (p := ⟨w.heap.size, 2, none⟩) (by simp) _).other (p := ⟨w.heap.size, 3, none⟩) (by simp) _).other (p := ⟨w.heap.size, 4, none⟩) (by simp) _).other (p := ⟨w.heap.size, 5, none⟩) (by simp) _).cell j).trans (by match j, hx with | 0, h => simp at h; subst h; rfl | n + 1, h => simp at h)⟩⟩, (((((((k0.trans hk1).set (by simp) _).set (by simp) _).set (by simp) _).set (by simp) _).set (by simp) _).set (by simp) _)⟩
set_option maxHeartbeats 8000000 in
set_option maxRecDepth 100000 in
theorem wr_9 (w : World) : Calls Tryz.prog 31 #[.int .i64 9] w fun e w' => ∃ v, e = .returned v ∧ WrOk w' v 2 42 1 1 [3] ∧ Kept w w' := by
  have r0 := Cells.new w 61 zeroW
  have k0 : Kept w (w.alloc (.cells zeroW 61)) := Kept.alloc (Below.refl _ _) _
  have s0 := Cells.new (w.alloc (.cells zeroW 61)) 42 #[.int .i64 3]
  simp only [World.size_alloc] at s0
  have r0 := r0.alloc (.cells #[.int .i64 3] 42)
  have k0 : Kept w ((w.alloc (.cells zeroW 61)).alloc (.cells #[.int .i64 3] 42)) := k0.alloc _
  have hC := kidsAs_ok ((w.alloc (.cells zeroW 61)).alloc (.cells #[.int .i64 3] 42)) (some ⟨w.heap.size + 1, 0, none⟩) 1 1
  go_enter Tryz.func31, Tryz.ntmps31
  go_wp2_with (go_at_call 46; refine hC.mono ?_; rintro e w1 ⟨rfl, hk1⟩; have s1 := s0.kept hk1; have r1 := r0.kept hk1; have d0 := r1.cell 0; have d1 := r1.cell 1; have d2 := r1.cell 2; have d3 := r1.cell 3; have d4 := r1.cell 4; have d5 := r1.cell 5; have g0 := r1.frozen 0; have g1 := r1.frozen 1; have g2 := r1.frozen 2; have g3 := r1.frozen 3; have g4 := r1.frozen 4; have g5 := r1.frozen 5; have lr := r1.lt; simp at d0 d1 d2 d3 d4 d5)
  have z := ((((((r1.set 0 (.int .i64 2)).set 1 (.func (.func 42) #[] #[])).set 2 (.int .i64 1)).set 3 (.int .i64 1)).set 4 (.slice (some ⟨w.heap.size + 1, 0, none⟩) 1 1)).set 5 (.func (.func 55) #[] #[]))
  have z0 := z.cell 0; have z1 := z.cell 1; have z2 := z.cell 2; have z3 := z.cell 3; have z4 := z.cell 4; have z5 := z.cell 5
  exact bodyPost_ret (v := .agg #[.int .i64 2, .func (.func 42) #[] #[], .int .i64 1, .int .i64 1, .slice (some ⟨w.heap.size + 1, 0, none⟩) 1 1, .func (.func 55) #[] #[]]) (by simp [results, Tryz.results31, go_sem, z0, z1, z2, z3, z4, z5]) rfl ⟨_, rfl, ⟨_, _, _, _, _, rfl, .inr ⟨_, rfl, fun j x hx => (((((((s1.other (p := ⟨w.heap.size, 0, none⟩) (by simp) _).other (p := ⟨w.heap.size, 1, none⟩) (by simp) _).other (p := ⟨w.heap.size, 2, none⟩) (by simp) _).other (p := ⟨w.heap.size, 3, none⟩) (by simp) _).other (p := ⟨w.heap.size, 4, none⟩) (by simp) _).other (p := ⟨w.heap.size, 5, none⟩) (by simp) _).cell j).trans (by match j, hx with | 0, h => simp at h; subst h; rfl | n + 1, h => simp at h)⟩⟩, (((((((k0.trans hk1).set (by simp) _).set (by simp) _).set (by simp) _).set (by simp) _).set (by simp) _).set (by simp) _)⟩
set_option maxHeartbeats 8000000 in
set_option maxRecDepth 100000 in
theorem wr_26 (w : World) : Calls Tryz.prog 31 #[.int .i64 26] w fun e w' => ∃ v, e = .returned v ∧ WrOk w' v 4 45 1 1 [3] ∧ Kept w w' := by
  have r0 := Cells.new w 61 zeroW
  have k0 : Kept w (w.alloc (.cells zeroW 61)) := Kept.alloc (Below.refl _ _) _
  have s0 := Cells.new (w.alloc (.cells zeroW 61)) 42 #[.int .i64 3]
  simp only [World.size_alloc] at s0
  have r0 := r0.alloc (.cells #[.int .i64 3] 42)
  have k0 : Kept w ((w.alloc (.cells zeroW 61)).alloc (.cells #[.int .i64 3] 42)) := k0.alloc _
  have hC := kidsAs_ok ((w.alloc (.cells zeroW 61)).alloc (.cells #[.int .i64 3] 42)) (some ⟨w.heap.size + 1, 0, none⟩) 1 1
  go_enter Tryz.func31, Tryz.ntmps31
  go_wp2_with (go_at_call 46; refine hC.mono ?_; rintro e w1 ⟨rfl, hk1⟩; have s1 := s0.kept hk1; have r1 := r0.kept hk1; have d0 := r1.cell 0; have d1 := r1.cell 1; have d2 := r1.cell 2; have d3 := r1.cell 3; have d4 := r1.cell 4; have d5 := r1.cell 5; have g0 := r1.frozen 0; have g1 := r1.frozen 1; have g2 := r1.frozen 2; have g3 := r1.frozen 3; have g4 := r1.frozen 4; have g5 := r1.frozen 5; have lr := r1.lt; simp at d0 d1 d2 d3 d4 d5)
  have z := ((((((r1.set 0 (.int .i64 4)).set 1 (.func (.func 45) #[] #[])).set 2 (.int .i64 1)).set 3 (.int .i64 1)).set 4 (.slice (some ⟨w.heap.size + 1, 0, none⟩) 1 1)).set 5 (.func (.func 56) #[] #[]))
  have z0 := z.cell 0; have z1 := z.cell 1; have z2 := z.cell 2; have z3 := z.cell 3; have z4 := z.cell 4; have z5 := z.cell 5
  exact bodyPost_ret (v := .agg #[.int .i64 4, .func (.func 45) #[] #[], .int .i64 1, .int .i64 1, .slice (some ⟨w.heap.size + 1, 0, none⟩) 1 1, .func (.func 56) #[] #[]]) (by simp [results, Tryz.results31, go_sem, z0, z1, z2, z3, z4, z5]) rfl ⟨_, rfl, ⟨_, _, _, _, _, rfl, .inr ⟨_, rfl, fun j x hx => (((((((s1.other (p := ⟨w.heap.size, 0, none⟩) (by simp) _).other (p := ⟨w.heap.size, 1, none⟩) (by simp) _).other (p := ⟨w.heap.size, 2, none⟩) (by simp) _).other (p := ⟨w.heap.size, 3, none⟩) (by simp) _).other (p := ⟨w.heap.size, 4, none⟩) (by simp) _).other (p := ⟨w.heap.size, 5, none⟩) (by simp) _).cell j).trans (by match j, hx with | 0, h => simp at h; subst h; rfl | n + 1, h => simp at h)⟩⟩, (((((((k0.trans hk1).set (by simp) _).set (by simp) _).set (by simp) _).set (by simp) _).set (by simp) _).set (by simp) _)⟩
set_option maxHeartbeats 8000000 in
set_option maxRecDepth 100000 in
theorem wr_5 (w : World) : Calls Tryz.prog 31 #[.int .i64 5] w fun e w' => ∃ v, e = .returned v ∧ WrOk w' v 2 42 2 3 [3, 1] ∧ Kept w w' := by
  have r0 := Cells.new w 61 zeroW
  have k0 : Kept w (w.alloc (.cells zeroW 61)) := Kept.alloc (Below.refl _ _) _
  have s0 := Cells.new (w.alloc (.cells zeroW 61)) 42 #[.int .i64 3, .int .i64 1]
  simp only [World.size_alloc] at s0
  have r1 := r0.alloc (.cells #[.int .i64 3, .int .i64 1] 42)
  have k1 : Kept w ((w.alloc (.cells zeroW 61)).alloc (.cells #[.int .i64 3, .int .i64 1] 42)) := k0.alloc _
  have d0 := r1.cell 0; have d1 := r1.cell 1; have d2 := r1.cell 2; have d3 := r1.cell 3; have d4 := r1.cell 4; have d5 := r1.cell 5; have g0 := r1.frozen 0; have g1 := r1.frozen 1; have g2 := r1.frozen 2; have g3 := r1.frozen 3; have g4 := r1.frozen 4; have g5 := r1.frozen 5; have lr := r1.lt; simp at d0 d1 d2 d3 d4 d5
  go_enter Tryz.func31, Tryz.ntmps31
  go_wp2_with fail
  have z := Cells.new w 61 #[.int .i64 2, .func (.func 42) #[] #[], .int .i64 2, .int .i64 3, .slice (some ⟨w.heap.size + 1, 0, none⟩) 2 2, .func (.func 51) #[] #[]]
  have z := z.alloc (.cells #[.int .i64 3, .int .i64 1] 42)
  have z0 := z.cell 0; have z1 := z.cell 1; have z2 := z.cell 2; have z3 := z.cell 3; have z4 := z.cell 4; have z5 := z.cell 5
  have s1 := Cells.new (w.alloc (.cells #[.int .i64 2, .func (.func 42) #[] #[], .int .i64 2, .int .i64 3, .slice (some ⟨w.heap.size + 1, 0, none⟩) 2 2, .func (.func 51) #[] #[]] 61)) 42 #[.int .i64 3, .int .i64 1]
  simp only [World.size_alloc] at s1
  exact bodyPost_ret (v := .agg #[.int .i64 2, .func (.func 42) #[] #[], .int .i64 2, .int .i64 3, .slice (some ⟨w.heap.size + 1, 0, none⟩) 2 2, .func (.func 51) #[] #[]]) (by simp [results, Tryz.results31, go_sem, z0, z1, z2, z3, z4, z5]) rfl ⟨_, rfl, ⟨_, _, _, _, _, rfl, .inr ⟨_, rfl, fun j x hx => (s1.cell j).trans (by match j, hx with | 0, h => simp at h; subst h; rfl | 1, h => simp at h; subst h; rfl | n + 2, h => simp at h)⟩⟩, (Kept.alloc (Below.refl _ _) _).alloc _⟩
end Go.Proofs.YtefdlnomkojckaaGreatDoor
