/-
  What the laws do with machines: a copy told with its cells (chapter 17).
-/
import Derived.Test.YtgempjjnfpmndaaMchV
namespace Go.Proofs.Ytgempjjnfpmndaa
open Go.ChangeShapes Go.WideShapes Go.ChangeAt Go.RowKit
set_option linter.unusedSimpArgs false
set_option linter.unusedVariables false
theorem RowT.lt {W : World} {g : Nat} {xs : List ByteArray} {n : Nat} (h : RowT W g xs n) : g < W.heap.size := by
  obtain ⟨_, h1, _⟩ := h
  exact h1.lt
theorem RowF.lt {W : World} {g : Nat} {xs : List Stp} {n : Nat} (h : RowF W g xs n) : g < W.heap.size := by
  obtain ⟨_, h1, _⟩ := h
  exact h1.lt
theorem RowX.lt {W : World} {g : Nat} {xs : List Cod} {n : Nat} (h : RowX W g xs n) : g < W.heap.size := by
  obtain ⟨_, h1, _⟩ := h
  exact h1.lt
theorem CodX.lt {W : World} {g : Nat} {cs : List Cod} (h : CodX W g cs) : g < W.heap.size := RowX.lt h
set_option maxHeartbeats 16000000 in
set_option maxRecDepth 100000 in
theorem toMachine_x (w : World) (h : MchH) (m : Mch) (hA : MchA w h m) (hL : MchLe m) :
    Calls Try.prog 6 #[.agg (mchC h m)] w fun e w' => ∃ g0 g1 g2 g3 g4 g5 g6 g7, e = .returned (.agg (mchC (ownH m g0 g1 g2 g3 g4 g5 g6 g7) m)) ∧ MchO w' w.heap.size g0 g1 g2 g3 g4 g5 g6 g7 m ∧ MchW w' w.heap.size w'.heap.size g0 g1 g2 g3 g4 g5 g6 g7 m ∧ Kept w w' := by
  obtain ⟨W0, hW0⟩ : ∃ W0, ((w.alloc (.cells (mchC h m) 33)).alloc (.cells #[.slice none 0 0, .slice none 0 0, .slice none 0 0, .int .i64 0, .slice none 0 0, .slice none 0 0, .int .i64 0, .slice none 0 0, .slice none 0 0, .slice none 0 0, .bool false, .int .i64 0] 45)).alloc (.cells #[.slice none 0 0, .slice none 0 0, .slice none 0 0, .int .i64 0, .slice none 0 0, .slice none 0 0, .int .i64 0, .slice none 0 0, .slice none 0 0, .slice none 0 0, .bool false, .int .i64 0] 45) = W0 := ⟨_, rfl⟩
  have X0 : Hid (Cells W0 w.heap.size 33 (mchC h m)) := hW0 ▸ ((Cells.new w 33 (mchC h m)).alloc _).alloc _
  have X1 : Hid (Cells W0 (w.heap.size + 1) 45 #[.slice none 0 0, .slice none 0 0, .slice none 0 0, .int .i64 0, .slice none 0 0, .slice none 0 0, .int .i64 0, .slice none 0 0, .slice none 0 0, .slice none 0 0, .bool false, .int .i64 0]) := by
    have y := (Cells.new (w.alloc (.cells (mchC h m) 33)) 45 #[.slice none 0 0, .slice none 0 0, .slice none 0 0, .int .i64 0, .slice none 0 0, .slice none 0 0, .int .i64 0, .slice none 0 0, .slice none 0 0, .slice none 0 0, .bool false, .int .i64 0]).alloc (.cells #[.slice none 0 0, .slice none 0 0, .slice none 0 0, .int .i64 0, .slice none 0 0, .slice none 0 0, .int .i64 0, .slice none 0 0, .slice none 0 0, .slice none 0 0, .bool false, .int .i64 0] 45)
    rw [hW0] at y
    simp only [World.size_alloc] at y
    exact y
  have X2 : Hid (Cells W0 (w.heap.size + 2) 45 #[.slice none 0 0, .slice none 0 0, .slice none 0 0, .int .i64 0, .slice none 0 0, .slice none 0 0, .int .i64 0, .slice none 0 0, .slice none 0 0, .slice none 0 0, .bool false, .int .i64 0]) := by
    have y := Cells.new ((w.alloc (.cells (mchC h m) 33)).alloc (.cells #[.slice none 0 0, .slice none 0 0, .slice none 0 0, .int .i64 0, .slice none 0 0, .slice none 0 0, .int .i64 0, .slice none 0 0, .slice none 0 0, .slice none 0 0, .bool false, .int .i64 0] 45)) 45 #[.slice none 0 0, .slice none 0 0, .slice none 0 0, .int .i64 0, .slice none 0 0, .slice none 0 0, .int .i64 0, .slice none 0 0, .slice none 0 0, .slice none 0 0, .bool false, .int .i64 0]
    rw [hW0] at y
    simp only [World.size_alloc] at y
    exact y
  have HK : Hid (Kept w W0) := hW0 ▸ ((Kept.alloc (Below.refl _ _) _).alloc _).alloc _
  have HS : Hid (w.heap.size + 3 ≤ W0.heap.size) := by rw [Hid, ← hW0]; simp
  have HA : Hid _ := hA
  have HL : Hid _ := hL
  clear hA hL
  go_enter Try.func6, Try.ntmps6
  go_upto_region 2 with (fail)
  try simp only [hW0]
  clear hW0
  have a0 := (Cells.m0 X0.out)
  have a1 := (Cells.m1 X0.out)
  have hC := toUnit_x W0 h.ca h.ta h.cc h.tc m.cs m.ts (MchA.kept HA.out HK.out).c (MchA.kept HA.out HK.out).t HL.out.c HL.out.i HL.out.t
  go_wp2_with fail
  refine hC.mono ?_
  rintro e u ⟨g0, g1, rfl, ⟨l0, l1⟩, R_c, R_t, hk⟩
  clear hC a0 a1
  have hs := HS.out
  replace l0 : w.heap.size + 3 ≤ g0 := by omega
  replace l1 : w.heap.size + 3 ≤ g1 := by omega
  obtain ⟨W1, hW⟩ : ∃ x, ((u).setCell ⟨w.heap.size + 2, 0, none⟩ (.slice (some ⟨g0, 0, none⟩) m.cs.length m.cs.length)).setCell ⟨w.heap.size + 2, 1, none⟩ (.slice (some ⟨g1, 0, none⟩) m.ts.length m.ts.length) = x := ⟨_, rfl⟩
  have y2 := Cells.kept X2.out hk
  have n0 : (u).cell? ⟨w.heap.size + 2, 0, none⟩ = some (.slice none 0 0) := Cells.cell y2 0
  have z0 : (u).frozen? ⟨w.heap.size + 2, 0, none⟩ = false := Cells.frozen y2 0
  have y2_0 := Cells.set 0 (.slice (some ⟨g0, 0, none⟩) m.cs.length m.cs.length) y2
  replace y2_0 : Cells ((u).setCell ⟨w.heap.size + 2, 0, none⟩ (.slice (some ⟨g0, 0, none⟩) m.cs.length m.cs.length)) (w.heap.size + 2) 45 #[.slice (some ⟨g0, 0, none⟩) m.cs.length m.cs.length, .slice none 0 0, .slice none 0 0, .int .i64 0, .slice none 0 0, .slice none 0 0, .int .i64 0, .slice none 0 0, .slice none 0 0, .slice none 0 0, .bool false, .int .i64 0] := y2_0
  have n1 : ((u).setCell ⟨w.heap.size + 2, 0, none⟩ (.slice (some ⟨g0, 0, none⟩) m.cs.length m.cs.length)).cell? ⟨w.heap.size + 2, 1, none⟩ = some (.slice none 0 0) := Cells.cell y2_0 1
  have z1 : ((u).setCell ⟨w.heap.size + 2, 0, none⟩ (.slice (some ⟨g0, 0, none⟩) m.cs.length m.cs.length)).frozen? ⟨w.heap.size + 2, 1, none⟩ = false := Cells.frozen y2_0 1
  have y2_1 := Cells.set 1 (.slice (some ⟨g1, 0, none⟩) m.ts.length m.ts.length) y2_0
  replace y2_1 : Cells (((u).setCell ⟨w.heap.size + 2, 0, none⟩ (.slice (some ⟨g0, 0, none⟩) m.cs.length m.cs.length)).setCell ⟨w.heap.size + 2, 1, none⟩ (.slice (some ⟨g1, 0, none⟩) m.ts.length m.ts.length)) (w.heap.size + 2) 45 #[.slice (some ⟨g0, 0, none⟩) m.cs.length m.cs.length, .slice (some ⟨g1, 0, none⟩) m.ts.length m.ts.length, .slice none 0 0, .int .i64 0, .slice none 0 0, .slice none 0 0, .int .i64 0, .slice none 0 0, .slice none 0 0, .slice none 0 0, .bool false, .int .i64 0] := y2_1
  replace X2 : Hid (Cells W1 (w.heap.size + 2) 45 #[.slice (some ⟨g0, 0, none⟩) m.cs.length m.cs.length, .slice (some ⟨g1, 0, none⟩) m.ts.length m.ts.length, .slice none 0 0, .int .i64 0, .slice none 0 0, .slice none 0 0, .int .i64 0, .slice none 0 0, .slice none 0 0, .slice none 0 0, .bool false, .int .i64 0]) := hW ▸ y2_1
  replace X0 : Hid (Cells W1 w.heap.size 33 (mchC h m)) := hW ▸ (Cells.other ((Cells.other (Cells.kept X0.out hk) (p := ⟨w.heap.size + 2, 0, none⟩) (by simp) _)) (p := ⟨w.heap.size + 2, 1, none⟩) (by simp) _)
  replace X1 : Hid (Cells W1 (w.heap.size + 1) 45 #[.slice none 0 0, .slice none 0 0, .slice none 0 0, .int .i64 0, .slice none 0 0, .slice none 0 0, .int .i64 0, .slice none 0 0, .slice none 0 0, .slice none 0 0, .bool false, .int .i64 0]) := hW ▸ (Cells.other ((Cells.other (Cells.kept X1.out hk) (p := ⟨w.heap.size + 2, 0, none⟩) (by simp) _)) (p := ⟨w.heap.size + 2, 1, none⟩) (by simp) _)
  have Q_c : Hid (CodX W1 g0 m.cs) := hW ▸ (CodX.other ((CodX.other (R_c) (by omega))) (by omega))
  clear R_c
  have Q_t : Hid (RowT W1 g1 m.ts m.ts.length) := hW ▸ (RowT.other ((RowT.other (R_t) (by omega))) (by omega))
  clear R_t
  replace HK : Hid (Kept w W1) := hW ▸ (Kept.set ((Kept.set (Kept.trans HK.out hk) (by simp) _)) (by simp) _)
  replace HS : Hid (w.heap.size + 3 ≤ W1.heap.size) := by have := hk.size; rw [Hid, ← hW]; simp only [World.size_setCell]; omega
  clear y2 hs hk y2_0 y2_1
  go_upto_region 3 with (fail)
  try simp only [hW]
  clear hW n0 z0 n1 z1
  have a2 := (Cells.m2 X0.out)
  have hC := toSlab_x W1 h.sa h.sc m.zs (MchA.kept HA.out HK.out).z HL.out.z
  go_wp2_with fail
  refine hC.mono ?_
  rintro e u ⟨g2, rfl, l2, R_z, hk⟩
  clear hC a2
  have hs := HS.out
  replace l2 : w.heap.size + 3 ≤ g2 := by omega
  obtain ⟨W2, hW⟩ : ∃ x, (u).setCell ⟨w.heap.size + 2, 2, none⟩ (.slice (some ⟨g2, 0, none⟩) m.zs.length m.zs.length) = x := ⟨_, rfl⟩
  have y2 := Cells.kept X2.out hk
  have n2 : (u).cell? ⟨w.heap.size + 2, 2, none⟩ = some (.slice none 0 0) := Cells.cell y2 2
  have z2 : (u).frozen? ⟨w.heap.size + 2, 2, none⟩ = false := Cells.frozen y2 2
  have y2_2 := Cells.set 2 (.slice (some ⟨g2, 0, none⟩) m.zs.length m.zs.length) y2
  replace y2_2 : Cells ((u).setCell ⟨w.heap.size + 2, 2, none⟩ (.slice (some ⟨g2, 0, none⟩) m.zs.length m.zs.length)) (w.heap.size + 2) 45 #[.slice (some ⟨g0, 0, none⟩) m.cs.length m.cs.length, .slice (some ⟨g1, 0, none⟩) m.ts.length m.ts.length, .slice (some ⟨g2, 0, none⟩) m.zs.length m.zs.length, .int .i64 0, .slice none 0 0, .slice none 0 0, .int .i64 0, .slice none 0 0, .slice none 0 0, .slice none 0 0, .bool false, .int .i64 0] := y2_2
  replace X2 : Hid (Cells W2 (w.heap.size + 2) 45 #[.slice (some ⟨g0, 0, none⟩) m.cs.length m.cs.length, .slice (some ⟨g1, 0, none⟩) m.ts.length m.ts.length, .slice (some ⟨g2, 0, none⟩) m.zs.length m.zs.length, .int .i64 0, .slice none 0 0, .slice none 0 0, .int .i64 0, .slice none 0 0, .slice none 0 0, .slice none 0 0, .bool false, .int .i64 0]) := hW ▸ y2_2
  replace X0 : Hid (Cells W2 w.heap.size 33 (mchC h m)) := hW ▸ (Cells.other (Cells.kept X0.out hk) (p := ⟨w.heap.size + 2, 2, none⟩) (by simp) _)
  replace X1 : Hid (Cells W2 (w.heap.size + 1) 45 #[.slice none 0 0, .slice none 0 0, .slice none 0 0, .int .i64 0, .slice none 0 0, .slice none 0 0, .int .i64 0, .slice none 0 0, .slice none 0 0, .slice none 0 0, .bool false, .int .i64 0]) := hW ▸ (Cells.other (Cells.kept X1.out hk) (p := ⟨w.heap.size + 2, 2, none⟩) (by simp) _)
  replace Q_c : Hid (CodX W2 g0 m.cs) := hW ▸ (CodX.other (CodX.kept Q_c.out hk) (by omega))
  replace Q_t : Hid (RowT W2 g1 m.ts m.ts.length) := hW ▸ (RowT.other (RowT.on Q_t.out hk) (by omega))
  have Q_z : Hid (IntX W2 g2 m.zs) := hW ▸ (IntX.other (R_z) (p := ⟨w.heap.size + 2, 2, none⟩) (by show _ ≠ w.heap.size + 2; omega) _)
  clear R_z
  replace HK : Hid (Kept w W2) := hW ▸ (Kept.set (Kept.trans HK.out hk) (by simp) _)
  replace HS : Hid (w.heap.size + 3 ≤ W2.heap.size) := by have := hk.size; rw [Hid, ← hW]; simp only [World.size_setCell]; omega
  clear y2 hs hk y2_2
  go_upto_region 4 with (fail)
  try simp only [hW]
  clear hW n2 z2
  have a3 := (Cells.m3 X0.out)
  have a4 := (Cells.m4 X0.out)
  have a5 := (Cells.m5 X0.out)
  have a6 := (Cells.m6 X0.out)
  have hC := toMarker_x W2 h.ga h.ba h.gc h.bc m.ph m.at' m.gs m.bs (MchA.kept HA.out HK.out).g (MchA.kept HA.out HK.out).b HL.out.g HL.out.b
  go_wp2_with fail
  refine hC.mono ?_
  rintro e u ⟨g3, g4, rfl, l3, l4, R_g, R_b, hk⟩
  clear hC a3 a4 a5 a6
  have hs := HS.out
  replace l4 : w.heap.size + 3 ≤ g4 := by omega
  replace l3 : w.heap.size + 3 ≤ g3 := by omega
  obtain ⟨W3, hW⟩ : ∃ x, ((((u).setCell ⟨w.heap.size + 2, 3, none⟩ (.int .i64 m.ph)).setCell ⟨w.heap.size + 2, 4, none⟩ (.slice (some ⟨g3, 0, none⟩) m.gs.length m.gs.length)).setCell ⟨w.heap.size + 2, 5, none⟩ (.slice (some ⟨g4, 0, none⟩) m.bs.length m.bs.length)).setCell ⟨w.heap.size + 2, 6, none⟩ (.int .i64 m.at') = x := ⟨_, rfl⟩
  have y2 := Cells.kept X2.out hk
  have n3 : (u).cell? ⟨w.heap.size + 2, 3, none⟩ = some (.int .i64 0) := Cells.cell y2 3
  have z3 : (u).frozen? ⟨w.heap.size + 2, 3, none⟩ = false := Cells.frozen y2 3
  have y2_3 := Cells.set 3 (.int .i64 m.ph) y2
  replace y2_3 : Cells ((u).setCell ⟨w.heap.size + 2, 3, none⟩ (.int .i64 m.ph)) (w.heap.size + 2) 45 #[.slice (some ⟨g0, 0, none⟩) m.cs.length m.cs.length, .slice (some ⟨g1, 0, none⟩) m.ts.length m.ts.length, .slice (some ⟨g2, 0, none⟩) m.zs.length m.zs.length, .int .i64 m.ph, .slice none 0 0, .slice none 0 0, .int .i64 0, .slice none 0 0, .slice none 0 0, .slice none 0 0, .bool false, .int .i64 0] := y2_3
  have n4 : ((u).setCell ⟨w.heap.size + 2, 3, none⟩ (.int .i64 m.ph)).cell? ⟨w.heap.size + 2, 4, none⟩ = some (.slice none 0 0) := Cells.cell y2_3 4
  have z4 : ((u).setCell ⟨w.heap.size + 2, 3, none⟩ (.int .i64 m.ph)).frozen? ⟨w.heap.size + 2, 4, none⟩ = false := Cells.frozen y2_3 4
  have y2_4 := Cells.set 4 (.slice (some ⟨g3, 0, none⟩) m.gs.length m.gs.length) y2_3
  replace y2_4 : Cells (((u).setCell ⟨w.heap.size + 2, 3, none⟩ (.int .i64 m.ph)).setCell ⟨w.heap.size + 2, 4, none⟩ (.slice (some ⟨g3, 0, none⟩) m.gs.length m.gs.length)) (w.heap.size + 2) 45 #[.slice (some ⟨g0, 0, none⟩) m.cs.length m.cs.length, .slice (some ⟨g1, 0, none⟩) m.ts.length m.ts.length, .slice (some ⟨g2, 0, none⟩) m.zs.length m.zs.length, .int .i64 m.ph, .slice (some ⟨g3, 0, none⟩) m.gs.length m.gs.length, .slice none 0 0, .int .i64 0, .slice none 0 0, .slice none 0 0, .slice none 0 0, .bool false, .int .i64 0] := y2_4
  have n5 : (((u).setCell ⟨w.heap.size + 2, 3, none⟩ (.int .i64 m.ph)).setCell ⟨w.heap.size + 2, 4, none⟩ (.slice (some ⟨g3, 0, none⟩) m.gs.length m.gs.length)).cell? ⟨w.heap.size + 2, 5, none⟩ = some (.slice none 0 0) := Cells.cell y2_4 5
  have z5 : (((u).setCell ⟨w.heap.size + 2, 3, none⟩ (.int .i64 m.ph)).setCell ⟨w.heap.size + 2, 4, none⟩ (.slice (some ⟨g3, 0, none⟩) m.gs.length m.gs.length)).frozen? ⟨w.heap.size + 2, 5, none⟩ = false := Cells.frozen y2_4 5
  have y2_5 := Cells.set 5 (.slice (some ⟨g4, 0, none⟩) m.bs.length m.bs.length) y2_4
  replace y2_5 : Cells ((((u).setCell ⟨w.heap.size + 2, 3, none⟩ (.int .i64 m.ph)).setCell ⟨w.heap.size + 2, 4, none⟩ (.slice (some ⟨g3, 0, none⟩) m.gs.length m.gs.length)).setCell ⟨w.heap.size + 2, 5, none⟩ (.slice (some ⟨g4, 0, none⟩) m.bs.length m.bs.length)) (w.heap.size + 2) 45 #[.slice (some ⟨g0, 0, none⟩) m.cs.length m.cs.length, .slice (some ⟨g1, 0, none⟩) m.ts.length m.ts.length, .slice (some ⟨g2, 0, none⟩) m.zs.length m.zs.length, .int .i64 m.ph, .slice (some ⟨g3, 0, none⟩) m.gs.length m.gs.length, .slice (some ⟨g4, 0, none⟩) m.bs.length m.bs.length, .int .i64 0, .slice none 0 0, .slice none 0 0, .slice none 0 0, .bool false, .int .i64 0] := y2_5
  have n6 : ((((u).setCell ⟨w.heap.size + 2, 3, none⟩ (.int .i64 m.ph)).setCell ⟨w.heap.size + 2, 4, none⟩ (.slice (some ⟨g3, 0, none⟩) m.gs.length m.gs.length)).setCell ⟨w.heap.size + 2, 5, none⟩ (.slice (some ⟨g4, 0, none⟩) m.bs.length m.bs.length)).cell? ⟨w.heap.size + 2, 6, none⟩ = some (.int .i64 0) := Cells.cell y2_5 6
  have z6 : ((((u).setCell ⟨w.heap.size + 2, 3, none⟩ (.int .i64 m.ph)).setCell ⟨w.heap.size + 2, 4, none⟩ (.slice (some ⟨g3, 0, none⟩) m.gs.length m.gs.length)).setCell ⟨w.heap.size + 2, 5, none⟩ (.slice (some ⟨g4, 0, none⟩) m.bs.length m.bs.length)).frozen? ⟨w.heap.size + 2, 6, none⟩ = false := Cells.frozen y2_5 6
  have y2_6 := Cells.set 6 (.int .i64 m.at') y2_5
  replace y2_6 : Cells (((((u).setCell ⟨w.heap.size + 2, 3, none⟩ (.int .i64 m.ph)).setCell ⟨w.heap.size + 2, 4, none⟩ (.slice (some ⟨g3, 0, none⟩) m.gs.length m.gs.length)).setCell ⟨w.heap.size + 2, 5, none⟩ (.slice (some ⟨g4, 0, none⟩) m.bs.length m.bs.length)).setCell ⟨w.heap.size + 2, 6, none⟩ (.int .i64 m.at')) (w.heap.size + 2) 45 #[.slice (some ⟨g0, 0, none⟩) m.cs.length m.cs.length, .slice (some ⟨g1, 0, none⟩) m.ts.length m.ts.length, .slice (some ⟨g2, 0, none⟩) m.zs.length m.zs.length, .int .i64 m.ph, .slice (some ⟨g3, 0, none⟩) m.gs.length m.gs.length, .slice (some ⟨g4, 0, none⟩) m.bs.length m.bs.length, .int .i64 m.at', .slice none 0 0, .slice none 0 0, .slice none 0 0, .bool false, .int .i64 0] := y2_6
  replace X2 : Hid (Cells W3 (w.heap.size + 2) 45 #[.slice (some ⟨g0, 0, none⟩) m.cs.length m.cs.length, .slice (some ⟨g1, 0, none⟩) m.ts.length m.ts.length, .slice (some ⟨g2, 0, none⟩) m.zs.length m.zs.length, .int .i64 m.ph, .slice (some ⟨g3, 0, none⟩) m.gs.length m.gs.length, .slice (some ⟨g4, 0, none⟩) m.bs.length m.bs.length, .int .i64 m.at', .slice none 0 0, .slice none 0 0, .slice none 0 0, .bool false, .int .i64 0]) := hW ▸ y2_6
  replace X0 : Hid (Cells W3 w.heap.size 33 (mchC h m)) := hW ▸ (Cells.other ((Cells.other ((Cells.other ((Cells.other (Cells.kept X0.out hk) (p := ⟨w.heap.size + 2, 3, none⟩) (by simp) _)) (p := ⟨w.heap.size + 2, 4, none⟩) (by simp) _)) (p := ⟨w.heap.size + 2, 5, none⟩) (by simp) _)) (p := ⟨w.heap.size + 2, 6, none⟩) (by simp) _)
  replace X1 : Hid (Cells W3 (w.heap.size + 1) 45 #[.slice none 0 0, .slice none 0 0, .slice none 0 0, .int .i64 0, .slice none 0 0, .slice none 0 0, .int .i64 0, .slice none 0 0, .slice none 0 0, .slice none 0 0, .bool false, .int .i64 0]) := hW ▸ (Cells.other ((Cells.other ((Cells.other ((Cells.other (Cells.kept X1.out hk) (p := ⟨w.heap.size + 2, 3, none⟩) (by simp) _)) (p := ⟨w.heap.size + 2, 4, none⟩) (by simp) _)) (p := ⟨w.heap.size + 2, 5, none⟩) (by simp) _)) (p := ⟨w.heap.size + 2, 6, none⟩) (by simp) _)
  replace Q_c : Hid (CodX W3 g0 m.cs) := hW ▸ (CodX.other ((CodX.other ((CodX.other ((CodX.other (CodX.kept Q_c.out hk) (by omega))) (by omega))) (by omega))) (by omega))
  replace Q_t : Hid (RowT W3 g1 m.ts m.ts.length) := hW ▸ (RowT.other ((RowT.other ((RowT.other ((RowT.other (RowT.on Q_t.out hk) (by omega))) (by omega))) (by omega))) (by omega))
  replace Q_z : Hid (IntX W3 g2 m.zs) := hW ▸ (IntX.other ((IntX.other ((IntX.other ((IntX.other (IntX.kept Q_z.out hk) (p := ⟨w.heap.size + 2, 3, none⟩) (by show _ ≠ w.heap.size + 2; omega) _)) (p := ⟨w.heap.size + 2, 4, none⟩) (by show _ ≠ w.heap.size + 2; omega) _)) (p := ⟨w.heap.size + 2, 5, none⟩) (by show _ ≠ w.heap.size + 2; omega) _)) (p := ⟨w.heap.size + 2, 6, none⟩) (by show _ ≠ w.heap.size + 2; omega) _)
  have Q_g : Hid (IntX W3 g3 m.gs) := hW ▸ (IntX.other ((IntX.other ((IntX.other ((IntX.other (R_g) (p := ⟨w.heap.size + 2, 3, none⟩) (by show _ ≠ w.heap.size + 2; omega) _)) (p := ⟨w.heap.size + 2, 4, none⟩) (by show _ ≠ w.heap.size + 2; omega) _)) (p := ⟨w.heap.size + 2, 5, none⟩) (by show _ ≠ w.heap.size + 2; omega) _)) (p := ⟨w.heap.size + 2, 6, none⟩) (by show _ ≠ w.heap.size + 2; omega) _)
  clear R_g
  have Q_b : Hid (IntX W3 g4 m.bs) := hW ▸ (IntX.other ((IntX.other ((IntX.other ((IntX.other (R_b) (p := ⟨w.heap.size + 2, 3, none⟩) (by show _ ≠ w.heap.size + 2; omega) _)) (p := ⟨w.heap.size + 2, 4, none⟩) (by show _ ≠ w.heap.size + 2; omega) _)) (p := ⟨w.heap.size + 2, 5, none⟩) (by show _ ≠ w.heap.size + 2; omega) _)) (p := ⟨w.heap.size + 2, 6, none⟩) (by show _ ≠ w.heap.size + 2; omega) _)
  clear R_b
  replace HK : Hid (Kept w W3) := hW ▸ (Kept.set ((Kept.set ((Kept.set ((Kept.set (Kept.trans HK.out hk) (by simp) _)) (by simp) _)) (by simp) _)) (by simp) _)
  replace HS : Hid (w.heap.size + 3 ≤ W3.heap.size) := by have := hk.size; rw [Hid, ← hW]; simp only [World.size_setCell]; omega
  clear y2 hs hk y2_3 y2_4 y2_5 y2_6
  go_upto_region 5 with (fail)
  try simp only [hW]
  clear hW n3 z3 n4 z4 n5 z5 n6 z6
  have a7 := (Cells.m7 X0.out)
  have hC := toFrameS_x W3 h.fa h.fc m.fs (MchA.kept HA.out HK.out).f HL.out.f
  go_wp2_with fail
  refine hC.mono ?_
  rintro e u ⟨rfl, R_f, hk⟩
  clear hC a7
  have hs := HS.out
  obtain ⟨g5, hg⟩ : ∃ x, W3.heap.size = x := ⟨_, rfl⟩
  rw [hg] at R_f
  try simp only [hg]
  have l5 : w.heap.size + 3 ≤ g5 := by omega
  clear hg
  obtain ⟨W4, hW⟩ : ∃ x, (u).setCell ⟨w.heap.size + 2, 7, none⟩ (.slice (some ⟨g5, 0, none⟩) m.fs.length m.fs.length) = x := ⟨_, rfl⟩
  have y2 := Cells.kept X2.out hk
  have n7 : (u).cell? ⟨w.heap.size + 2, 7, none⟩ = some (.slice none 0 0) := Cells.cell y2 7
  have z7 : (u).frozen? ⟨w.heap.size + 2, 7, none⟩ = false := Cells.frozen y2 7
  have y2_7 := Cells.set 7 (.slice (some ⟨g5, 0, none⟩) m.fs.length m.fs.length) y2
  replace y2_7 : Cells ((u).setCell ⟨w.heap.size + 2, 7, none⟩ (.slice (some ⟨g5, 0, none⟩) m.fs.length m.fs.length)) (w.heap.size + 2) 45 #[.slice (some ⟨g0, 0, none⟩) m.cs.length m.cs.length, .slice (some ⟨g1, 0, none⟩) m.ts.length m.ts.length, .slice (some ⟨g2, 0, none⟩) m.zs.length m.zs.length, .int .i64 m.ph, .slice (some ⟨g3, 0, none⟩) m.gs.length m.gs.length, .slice (some ⟨g4, 0, none⟩) m.bs.length m.bs.length, .int .i64 m.at', .slice (some ⟨g5, 0, none⟩) m.fs.length m.fs.length, .slice none 0 0, .slice none 0 0, .bool false, .int .i64 0] := y2_7
  replace X2 : Hid (Cells W4 (w.heap.size + 2) 45 #[.slice (some ⟨g0, 0, none⟩) m.cs.length m.cs.length, .slice (some ⟨g1, 0, none⟩) m.ts.length m.ts.length, .slice (some ⟨g2, 0, none⟩) m.zs.length m.zs.length, .int .i64 m.ph, .slice (some ⟨g3, 0, none⟩) m.gs.length m.gs.length, .slice (some ⟨g4, 0, none⟩) m.bs.length m.bs.length, .int .i64 m.at', .slice (some ⟨g5, 0, none⟩) m.fs.length m.fs.length, .slice none 0 0, .slice none 0 0, .bool false, .int .i64 0]) := hW ▸ y2_7
  replace X0 : Hid (Cells W4 w.heap.size 33 (mchC h m)) := hW ▸ (Cells.other (Cells.kept X0.out hk) (p := ⟨w.heap.size + 2, 7, none⟩) (by simp) _)
  replace X1 : Hid (Cells W4 (w.heap.size + 1) 45 #[.slice none 0 0, .slice none 0 0, .slice none 0 0, .int .i64 0, .slice none 0 0, .slice none 0 0, .int .i64 0, .slice none 0 0, .slice none 0 0, .slice none 0 0, .bool false, .int .i64 0]) := hW ▸ (Cells.other (Cells.kept X1.out hk) (p := ⟨w.heap.size + 2, 7, none⟩) (by simp) _)
  replace Q_c : Hid (CodX W4 g0 m.cs) := hW ▸ (CodX.other (CodX.kept Q_c.out hk) (by omega))
  replace Q_t : Hid (RowT W4 g1 m.ts m.ts.length) := hW ▸ (RowT.other (RowT.on Q_t.out hk) (by omega))
  replace Q_z : Hid (IntX W4 g2 m.zs) := hW ▸ (IntX.other (IntX.kept Q_z.out hk) (p := ⟨w.heap.size + 2, 7, none⟩) (by show _ ≠ w.heap.size + 2; omega) _)
  replace Q_g : Hid (IntX W4 g3 m.gs) := hW ▸ (IntX.other (IntX.kept Q_g.out hk) (p := ⟨w.heap.size + 2, 7, none⟩) (by show _ ≠ w.heap.size + 2; omega) _)
  replace Q_b : Hid (IntX W4 g4 m.bs) := hW ▸ (IntX.other (IntX.kept Q_b.out hk) (p := ⟨w.heap.size + 2, 7, none⟩) (by show _ ≠ w.heap.size + 2; omega) _)
  have Q_f : Hid (RowF W4 g5 m.fs m.fs.length) := hW ▸ (RowF.other (R_f) (by omega))
  clear R_f
  replace HK : Hid (Kept w W4) := hW ▸ (Kept.set (Kept.trans HK.out hk) (by simp) _)
  replace HS : Hid (w.heap.size + 3 ≤ W4.heap.size) := by have := hk.size; rw [Hid, ← hW]; simp only [World.size_setCell]; omega
  clear y2 hs hk y2_7
  go_upto_region 6 with (fail)
  try simp only [hW]
  clear hW n7 z7
  have a8 := (Cells.m8 X0.out)
  have hC := toIntS_x W4 h.ka h.kc m.ks (MchA.kept HA.out HK.out).k HL.out.k
  go_wp2_with fail
  refine hC.mono ?_
  rintro e u ⟨rfl, R_k, hk⟩
  clear hC a8
  have hs := HS.out
  obtain ⟨g6, hg⟩ : ∃ x, W4.heap.size = x := ⟨_, rfl⟩
  rw [hg] at R_k
  try simp only [hg]
  have l6 : w.heap.size + 3 ≤ g6 := by omega
  clear hg
  obtain ⟨W5, hW⟩ : ∃ x, (u).setCell ⟨w.heap.size + 2, 8, none⟩ (.slice (some ⟨g6, 0, none⟩) m.ks.length m.ks.length) = x := ⟨_, rfl⟩
  have y2 := Cells.kept X2.out hk
  have n8 : (u).cell? ⟨w.heap.size + 2, 8, none⟩ = some (.slice none 0 0) := Cells.cell y2 8
  have z8 : (u).frozen? ⟨w.heap.size + 2, 8, none⟩ = false := Cells.frozen y2 8
  have y2_8 := Cells.set 8 (.slice (some ⟨g6, 0, none⟩) m.ks.length m.ks.length) y2
  replace y2_8 : Cells ((u).setCell ⟨w.heap.size + 2, 8, none⟩ (.slice (some ⟨g6, 0, none⟩) m.ks.length m.ks.length)) (w.heap.size + 2) 45 #[.slice (some ⟨g0, 0, none⟩) m.cs.length m.cs.length, .slice (some ⟨g1, 0, none⟩) m.ts.length m.ts.length, .slice (some ⟨g2, 0, none⟩) m.zs.length m.zs.length, .int .i64 m.ph, .slice (some ⟨g3, 0, none⟩) m.gs.length m.gs.length, .slice (some ⟨g4, 0, none⟩) m.bs.length m.bs.length, .int .i64 m.at', .slice (some ⟨g5, 0, none⟩) m.fs.length m.fs.length, .slice (some ⟨g6, 0, none⟩) m.ks.length m.ks.length, .slice none 0 0, .bool false, .int .i64 0] := y2_8
  replace X2 : Hid (Cells W5 (w.heap.size + 2) 45 #[.slice (some ⟨g0, 0, none⟩) m.cs.length m.cs.length, .slice (some ⟨g1, 0, none⟩) m.ts.length m.ts.length, .slice (some ⟨g2, 0, none⟩) m.zs.length m.zs.length, .int .i64 m.ph, .slice (some ⟨g3, 0, none⟩) m.gs.length m.gs.length, .slice (some ⟨g4, 0, none⟩) m.bs.length m.bs.length, .int .i64 m.at', .slice (some ⟨g5, 0, none⟩) m.fs.length m.fs.length, .slice (some ⟨g6, 0, none⟩) m.ks.length m.ks.length, .slice none 0 0, .bool false, .int .i64 0]) := hW ▸ y2_8
  replace X0 : Hid (Cells W5 w.heap.size 33 (mchC h m)) := hW ▸ (Cells.other (Cells.kept X0.out hk) (p := ⟨w.heap.size + 2, 8, none⟩) (by simp) _)
  replace X1 : Hid (Cells W5 (w.heap.size + 1) 45 #[.slice none 0 0, .slice none 0 0, .slice none 0 0, .int .i64 0, .slice none 0 0, .slice none 0 0, .int .i64 0, .slice none 0 0, .slice none 0 0, .slice none 0 0, .bool false, .int .i64 0]) := hW ▸ (Cells.other (Cells.kept X1.out hk) (p := ⟨w.heap.size + 2, 8, none⟩) (by simp) _)
  replace Q_c : Hid (CodX W5 g0 m.cs) := hW ▸ (CodX.other (CodX.kept Q_c.out hk) (by omega))
  replace Q_t : Hid (RowT W5 g1 m.ts m.ts.length) := hW ▸ (RowT.other (RowT.on Q_t.out hk) (by omega))
  replace Q_z : Hid (IntX W5 g2 m.zs) := hW ▸ (IntX.other (IntX.kept Q_z.out hk) (p := ⟨w.heap.size + 2, 8, none⟩) (by show _ ≠ w.heap.size + 2; omega) _)
  replace Q_g : Hid (IntX W5 g3 m.gs) := hW ▸ (IntX.other (IntX.kept Q_g.out hk) (p := ⟨w.heap.size + 2, 8, none⟩) (by show _ ≠ w.heap.size + 2; omega) _)
  replace Q_b : Hid (IntX W5 g4 m.bs) := hW ▸ (IntX.other (IntX.kept Q_b.out hk) (p := ⟨w.heap.size + 2, 8, none⟩) (by show _ ≠ w.heap.size + 2; omega) _)
  replace Q_f : Hid (RowF W5 g5 m.fs m.fs.length) := hW ▸ (RowF.other (RowF.on Q_f.out hk) (by omega))
  have Q_k : Hid (IntX W5 g6 m.ks) := hW ▸ (IntX.other (R_k) (p := ⟨w.heap.size + 2, 8, none⟩) (by show _ ≠ w.heap.size + 2; omega) _)
  clear R_k
  replace HK : Hid (Kept w W5) := hW ▸ (Kept.set (Kept.trans HK.out hk) (by simp) _)
  replace HS : Hid (w.heap.size + 3 ≤ W5.heap.size) := by have := hk.size; rw [Hid, ← hW]; simp only [World.size_setCell]; omega
  clear y2 hs hk y2_8
  go_upto_region 7 with (fail)
  try simp only [hW]
  clear hW n8 z8
  have a9 := (Cells.m9 X0.out)
  have hC := toStringS_x W5 h.la h.lc m.ls (MchA.kept HA.out HK.out).l HL.out.l'
  go_wp2_with fail
  refine hC.mono ?_
  rintro e u ⟨rfl, R_l, hk⟩
  clear hC a9
  have hs := HS.out
  obtain ⟨g7, hg⟩ : ∃ x, W5.heap.size = x := ⟨_, rfl⟩
  rw [hg] at R_l
  try simp only [hg]
  have l7 : w.heap.size + 3 ≤ g7 := by omega
  clear hg
  obtain ⟨W6, hW⟩ : ∃ x, (u).setCell ⟨w.heap.size + 2, 9, none⟩ (.slice (some ⟨g7, 0, none⟩) m.ls.length m.ls.length) = x := ⟨_, rfl⟩
  have y2 := Cells.kept X2.out hk
  have n9 : (u).cell? ⟨w.heap.size + 2, 9, none⟩ = some (.slice none 0 0) := Cells.cell y2 9
  have z9 : (u).frozen? ⟨w.heap.size + 2, 9, none⟩ = false := Cells.frozen y2 9
  have y2_9 := Cells.set 9 (.slice (some ⟨g7, 0, none⟩) m.ls.length m.ls.length) y2
  replace y2_9 : Cells ((u).setCell ⟨w.heap.size + 2, 9, none⟩ (.slice (some ⟨g7, 0, none⟩) m.ls.length m.ls.length)) (w.heap.size + 2) 45 #[.slice (some ⟨g0, 0, none⟩) m.cs.length m.cs.length, .slice (some ⟨g1, 0, none⟩) m.ts.length m.ts.length, .slice (some ⟨g2, 0, none⟩) m.zs.length m.zs.length, .int .i64 m.ph, .slice (some ⟨g3, 0, none⟩) m.gs.length m.gs.length, .slice (some ⟨g4, 0, none⟩) m.bs.length m.bs.length, .int .i64 m.at', .slice (some ⟨g5, 0, none⟩) m.fs.length m.fs.length, .slice (some ⟨g6, 0, none⟩) m.ks.length m.ks.length, .slice (some ⟨g7, 0, none⟩) m.ls.length m.ls.length, .bool false, .int .i64 0] := y2_9
  replace X2 : Hid (Cells W6 (w.heap.size + 2) 45 #[.slice (some ⟨g0, 0, none⟩) m.cs.length m.cs.length, .slice (some ⟨g1, 0, none⟩) m.ts.length m.ts.length, .slice (some ⟨g2, 0, none⟩) m.zs.length m.zs.length, .int .i64 m.ph, .slice (some ⟨g3, 0, none⟩) m.gs.length m.gs.length, .slice (some ⟨g4, 0, none⟩) m.bs.length m.bs.length, .int .i64 m.at', .slice (some ⟨g5, 0, none⟩) m.fs.length m.fs.length, .slice (some ⟨g6, 0, none⟩) m.ks.length m.ks.length, .slice (some ⟨g7, 0, none⟩) m.ls.length m.ls.length, .bool false, .int .i64 0]) := hW ▸ y2_9
  replace X0 : Hid (Cells W6 w.heap.size 33 (mchC h m)) := hW ▸ (Cells.other (Cells.kept X0.out hk) (p := ⟨w.heap.size + 2, 9, none⟩) (by simp) _)
  replace X1 : Hid (Cells W6 (w.heap.size + 1) 45 #[.slice none 0 0, .slice none 0 0, .slice none 0 0, .int .i64 0, .slice none 0 0, .slice none 0 0, .int .i64 0, .slice none 0 0, .slice none 0 0, .slice none 0 0, .bool false, .int .i64 0]) := hW ▸ (Cells.other (Cells.kept X1.out hk) (p := ⟨w.heap.size + 2, 9, none⟩) (by simp) _)
  replace Q_c : Hid (CodX W6 g0 m.cs) := hW ▸ (CodX.other (CodX.kept Q_c.out hk) (by omega))
  replace Q_t : Hid (RowT W6 g1 m.ts m.ts.length) := hW ▸ (RowT.other (RowT.on Q_t.out hk) (by omega))
  replace Q_z : Hid (IntX W6 g2 m.zs) := hW ▸ (IntX.other (IntX.kept Q_z.out hk) (p := ⟨w.heap.size + 2, 9, none⟩) (by show _ ≠ w.heap.size + 2; omega) _)
  replace Q_g : Hid (IntX W6 g3 m.gs) := hW ▸ (IntX.other (IntX.kept Q_g.out hk) (p := ⟨w.heap.size + 2, 9, none⟩) (by show _ ≠ w.heap.size + 2; omega) _)
  replace Q_b : Hid (IntX W6 g4 m.bs) := hW ▸ (IntX.other (IntX.kept Q_b.out hk) (p := ⟨w.heap.size + 2, 9, none⟩) (by show _ ≠ w.heap.size + 2; omega) _)
  replace Q_f : Hid (RowF W6 g5 m.fs m.fs.length) := hW ▸ (RowF.other (RowF.on Q_f.out hk) (by omega))
  replace Q_k : Hid (IntX W6 g6 m.ks) := hW ▸ (IntX.other (IntX.kept Q_k.out hk) (p := ⟨w.heap.size + 2, 9, none⟩) (by show _ ≠ w.heap.size + 2; omega) _)
  have Q_l : Hid (RowT W6 g7 m.ls m.ls.length) := hW ▸ (RowT.other (R_l) (by omega))
  clear R_l
  replace HK : Hid (Kept w W6) := hW ▸ (Kept.set (Kept.trans HK.out hk) (by simp) _)
  replace HS : Hid (w.heap.size + 3 ≤ W6.heap.size) := by have := hk.size; rw [Hid, ← hW]; simp only [World.size_setCell]; omega
  clear y2 hs hk y2_9
  go_upto_region 8 with (fail)
  try simp only [hW]
  clear hW n9 z9
  have a10 := Cells.m10 X0.out
  obtain ⟨W7, hW⟩ : ∃ x, W6.setCell ⟨w.heap.size + 2, 10, none⟩ (.bool m.ov) = x := ⟨_, rfl⟩
  have n10 : W6.cell? ⟨w.heap.size + 2, 10, none⟩ = some (.bool false) := Cells.cell X2.out 10
  have z10 : W6.frozen? ⟨w.heap.size + 2, 10, none⟩ = false := Cells.frozen X2.out 10
  replace X2 : Hid (Cells W7 (w.heap.size + 2) 45 #[.slice (some ⟨g0, 0, none⟩) m.cs.length m.cs.length, .slice (some ⟨g1, 0, none⟩) m.ts.length m.ts.length, .slice (some ⟨g2, 0, none⟩) m.zs.length m.zs.length, .int .i64 m.ph, .slice (some ⟨g3, 0, none⟩) m.gs.length m.gs.length, .slice (some ⟨g4, 0, none⟩) m.bs.length m.bs.length, .int .i64 m.at', .slice (some ⟨g5, 0, none⟩) m.fs.length m.fs.length, .slice (some ⟨g6, 0, none⟩) m.ks.length m.ks.length, .slice (some ⟨g7, 0, none⟩) m.ls.length m.ls.length, .bool m.ov, .int .i64 0]) := hW ▸ Cells.set 10 (.bool m.ov) X2.out
  replace X0 : Hid (Cells W7 w.heap.size 33 (mchC h m)) := hW ▸ (Cells.other X0.out (p := ⟨w.heap.size + 2, 10, none⟩) (by simp) _)
  replace X1 : Hid (Cells W7 (w.heap.size + 1) 45 #[.slice none 0 0, .slice none 0 0, .slice none 0 0, .int .i64 0, .slice none 0 0, .slice none 0 0, .int .i64 0, .slice none 0 0, .slice none 0 0, .slice none 0 0, .bool false, .int .i64 0]) := hW ▸ (Cells.other X1.out (p := ⟨w.heap.size + 2, 10, none⟩) (by simp) _)
  replace Q_c : Hid (CodX W7 g0 m.cs) := hW ▸ (CodX.other (Q_c.out) (by omega))
  replace Q_t : Hid (RowT W7 g1 m.ts m.ts.length) := hW ▸ (RowT.other (Q_t.out) (by omega))
  replace Q_z : Hid (IntX W7 g2 m.zs) := hW ▸ (IntX.other (Q_z.out) (p := ⟨w.heap.size + 2, 10, none⟩) (by show _ ≠ w.heap.size + 2; omega) _)
  replace Q_g : Hid (IntX W7 g3 m.gs) := hW ▸ (IntX.other (Q_g.out) (p := ⟨w.heap.size + 2, 10, none⟩) (by show _ ≠ w.heap.size + 2; omega) _)
  replace Q_b : Hid (IntX W7 g4 m.bs) := hW ▸ (IntX.other (Q_b.out) (p := ⟨w.heap.size + 2, 10, none⟩) (by show _ ≠ w.heap.size + 2; omega) _)
  replace Q_f : Hid (RowF W7 g5 m.fs m.fs.length) := hW ▸ (RowF.other (Q_f.out) (by omega))
  replace Q_k : Hid (IntX W7 g6 m.ks) := hW ▸ (IntX.other (Q_k.out) (p := ⟨w.heap.size + 2, 10, none⟩) (by show _ ≠ w.heap.size + 2; omega) _)
  replace Q_l : Hid (RowT W7 g7 m.ls m.ls.length) := hW ▸ (RowT.other (Q_l.out) (by omega))
  replace HK : Hid (Kept w W7) := hW ▸ (Kept.set HK.out (by simp) _)
  go_upto_region 9 with (fail)
  try simp only [hW]
  clear hW a10 n10 z10
  have a11 := Cells.m11 X0.out
  obtain ⟨W8, hW⟩ : ∃ x, W7.setCell ⟨w.heap.size + 2, 11, none⟩ (.int .i64 m.cd) = x := ⟨_, rfl⟩
  have n11 : W7.cell? ⟨w.heap.size + 2, 11, none⟩ = some (.int .i64 0) := Cells.cell X2.out 11
  have z11 : W7.frozen? ⟨w.heap.size + 2, 11, none⟩ = false := Cells.frozen X2.out 11
  replace X2 : Hid (Cells W8 (w.heap.size + 2) 45 #[.slice (some ⟨g0, 0, none⟩) m.cs.length m.cs.length, .slice (some ⟨g1, 0, none⟩) m.ts.length m.ts.length, .slice (some ⟨g2, 0, none⟩) m.zs.length m.zs.length, .int .i64 m.ph, .slice (some ⟨g3, 0, none⟩) m.gs.length m.gs.length, .slice (some ⟨g4, 0, none⟩) m.bs.length m.bs.length, .int .i64 m.at', .slice (some ⟨g5, 0, none⟩) m.fs.length m.fs.length, .slice (some ⟨g6, 0, none⟩) m.ks.length m.ks.length, .slice (some ⟨g7, 0, none⟩) m.ls.length m.ls.length, .bool m.ov, .int .i64 m.cd]) := hW ▸ Cells.set 11 (.int .i64 m.cd) X2.out
  replace X0 : Hid (Cells W8 w.heap.size 33 (mchC h m)) := hW ▸ (Cells.other X0.out (p := ⟨w.heap.size + 2, 11, none⟩) (by simp) _)
  replace X1 : Hid (Cells W8 (w.heap.size + 1) 45 #[.slice none 0 0, .slice none 0 0, .slice none 0 0, .int .i64 0, .slice none 0 0, .slice none 0 0, .int .i64 0, .slice none 0 0, .slice none 0 0, .slice none 0 0, .bool false, .int .i64 0]) := hW ▸ (Cells.other X1.out (p := ⟨w.heap.size + 2, 11, none⟩) (by simp) _)
  replace Q_c : Hid (CodX W8 g0 m.cs) := hW ▸ (CodX.other (Q_c.out) (by omega))
  replace Q_t : Hid (RowT W8 g1 m.ts m.ts.length) := hW ▸ (RowT.other (Q_t.out) (by omega))
  replace Q_z : Hid (IntX W8 g2 m.zs) := hW ▸ (IntX.other (Q_z.out) (p := ⟨w.heap.size + 2, 11, none⟩) (by show _ ≠ w.heap.size + 2; omega) _)
  replace Q_g : Hid (IntX W8 g3 m.gs) := hW ▸ (IntX.other (Q_g.out) (p := ⟨w.heap.size + 2, 11, none⟩) (by show _ ≠ w.heap.size + 2; omega) _)
  replace Q_b : Hid (IntX W8 g4 m.bs) := hW ▸ (IntX.other (Q_b.out) (p := ⟨w.heap.size + 2, 11, none⟩) (by show _ ≠ w.heap.size + 2; omega) _)
  replace Q_f : Hid (RowF W8 g5 m.fs m.fs.length) := hW ▸ (RowF.other (Q_f.out) (by omega))
  replace Q_k : Hid (IntX W8 g6 m.ks) := hW ▸ (IntX.other (Q_k.out) (p := ⟨w.heap.size + 2, 11, none⟩) (by show _ ≠ w.heap.size + 2; omega) _)
  replace Q_l : Hid (RowT W8 g7 m.ls m.ls.length) := hW ▸ (RowT.other (Q_l.out) (by omega))
  replace HK : Hid (Kept w W8) := hW ▸ (Kept.set HK.out (by simp) _)
  go_upto_region 10 with (fail)
  try simp only [hW]
  clear hW a11 n11 z11
  have c0 := Cells.cell X2.out 0
  have c1 := Cells.cell X2.out 1
  have c2 := Cells.cell X2.out 2
  have c3 := Cells.cell X2.out 3
  have c4 := Cells.cell X2.out 4
  have c5 := Cells.cell X2.out 5
  have c6 := Cells.cell X2.out 6
  have c7 := Cells.cell X2.out 7
  have c8 := Cells.cell X2.out 8
  have c9 := Cells.cell X2.out 9
  have c10 := Cells.cell X2.out 10
  have c11 := Cells.cell X2.out 11
  have d0 := Cells.cell X1.out 0
  have d1 := Cells.cell X1.out 1
  have d2 := Cells.cell X1.out 2
  have d3 := Cells.cell X1.out 3
  have d4 := Cells.cell X1.out 4
  have d5 := Cells.cell X1.out 5
  have d6 := Cells.cell X1.out 6
  have d7 := Cells.cell X1.out 7
  have d8 := Cells.cell X1.out 8
  have d9 := Cells.cell X1.out 9
  have d10 := Cells.cell X1.out 10
  have d11 := Cells.cell X1.out 11
  have f0 := Cells.frozen X1.out 0
  have f1 := Cells.frozen X1.out 1
  have f2 := Cells.frozen X1.out 2
  have f3 := Cells.frozen X1.out 3
  have f4 := Cells.frozen X1.out 4
  have f5 := Cells.frozen X1.out 5
  have f6 := Cells.frozen X1.out 6
  have f7 := Cells.frozen X1.out 7
  have f8 := Cells.frozen X1.out 8
  have f9 := Cells.frozen X1.out 9
  have f10 := Cells.frozen X1.out 10
  have f11 := Cells.frozen X1.out 11
  go_wp2_with fail
  have p0 : Cells (W8.setCell ⟨w.heap.size + 1, 0, none⟩ (.slice (some ⟨g0, 0, none⟩) m.cs.length m.cs.length)) (w.heap.size + 1) 45 #[.slice (some ⟨g0, 0, none⟩) m.cs.length m.cs.length, .slice none 0 0, .slice none 0 0, .int .i64 0, .slice none 0 0, .slice none 0 0, .int .i64 0, .slice none 0 0, .slice none 0 0, .slice none 0 0, .bool false, .int .i64 0] := Cells.set 0 (.slice (some ⟨g0, 0, none⟩) m.cs.length m.cs.length) X1.out
  have p1 : Cells ((W8.setCell ⟨w.heap.size + 1, 0, none⟩ (.slice (some ⟨g0, 0, none⟩) m.cs.length m.cs.length)).setCell ⟨w.heap.size + 1, 1, none⟩ (.slice (some ⟨g1, 0, none⟩) m.ts.length m.ts.length)) (w.heap.size + 1) 45 #[.slice (some ⟨g0, 0, none⟩) m.cs.length m.cs.length, .slice (some ⟨g1, 0, none⟩) m.ts.length m.ts.length, .slice none 0 0, .int .i64 0, .slice none 0 0, .slice none 0 0, .int .i64 0, .slice none 0 0, .slice none 0 0, .slice none 0 0, .bool false, .int .i64 0] := Cells.set 1 (.slice (some ⟨g1, 0, none⟩) m.ts.length m.ts.length) p0
  have p2 : Cells (((W8.setCell ⟨w.heap.size + 1, 0, none⟩ (.slice (some ⟨g0, 0, none⟩) m.cs.length m.cs.length)).setCell ⟨w.heap.size + 1, 1, none⟩ (.slice (some ⟨g1, 0, none⟩) m.ts.length m.ts.length)).setCell ⟨w.heap.size + 1, 2, none⟩ (.slice (some ⟨g2, 0, none⟩) m.zs.length m.zs.length)) (w.heap.size + 1) 45 #[.slice (some ⟨g0, 0, none⟩) m.cs.length m.cs.length, .slice (some ⟨g1, 0, none⟩) m.ts.length m.ts.length, .slice (some ⟨g2, 0, none⟩) m.zs.length m.zs.length, .int .i64 0, .slice none 0 0, .slice none 0 0, .int .i64 0, .slice none 0 0, .slice none 0 0, .slice none 0 0, .bool false, .int .i64 0] := Cells.set 2 (.slice (some ⟨g2, 0, none⟩) m.zs.length m.zs.length) p1
  have p3 : Cells ((((W8.setCell ⟨w.heap.size + 1, 0, none⟩ (.slice (some ⟨g0, 0, none⟩) m.cs.length m.cs.length)).setCell ⟨w.heap.size + 1, 1, none⟩ (.slice (some ⟨g1, 0, none⟩) m.ts.length m.ts.length)).setCell ⟨w.heap.size + 1, 2, none⟩ (.slice (some ⟨g2, 0, none⟩) m.zs.length m.zs.length)).setCell ⟨w.heap.size + 1, 3, none⟩ (.int .i64 m.ph)) (w.heap.size + 1) 45 #[.slice (some ⟨g0, 0, none⟩) m.cs.length m.cs.length, .slice (some ⟨g1, 0, none⟩) m.ts.length m.ts.length, .slice (some ⟨g2, 0, none⟩) m.zs.length m.zs.length, .int .i64 m.ph, .slice none 0 0, .slice none 0 0, .int .i64 0, .slice none 0 0, .slice none 0 0, .slice none 0 0, .bool false, .int .i64 0] := Cells.set 3 (.int .i64 m.ph) p2
  have p4 : Cells (((((W8.setCell ⟨w.heap.size + 1, 0, none⟩ (.slice (some ⟨g0, 0, none⟩) m.cs.length m.cs.length)).setCell ⟨w.heap.size + 1, 1, none⟩ (.slice (some ⟨g1, 0, none⟩) m.ts.length m.ts.length)).setCell ⟨w.heap.size + 1, 2, none⟩ (.slice (some ⟨g2, 0, none⟩) m.zs.length m.zs.length)).setCell ⟨w.heap.size + 1, 3, none⟩ (.int .i64 m.ph)).setCell ⟨w.heap.size + 1, 4, none⟩ (.slice (some ⟨g3, 0, none⟩) m.gs.length m.gs.length)) (w.heap.size + 1) 45 #[.slice (some ⟨g0, 0, none⟩) m.cs.length m.cs.length, .slice (some ⟨g1, 0, none⟩) m.ts.length m.ts.length, .slice (some ⟨g2, 0, none⟩) m.zs.length m.zs.length, .int .i64 m.ph, .slice (some ⟨g3, 0, none⟩) m.gs.length m.gs.length, .slice none 0 0, .int .i64 0, .slice none 0 0, .slice none 0 0, .slice none 0 0, .bool false, .int .i64 0] := Cells.set 4 (.slice (some ⟨g3, 0, none⟩) m.gs.length m.gs.length) p3
  have p5 : Cells ((((((W8.setCell ⟨w.heap.size + 1, 0, none⟩ (.slice (some ⟨g0, 0, none⟩) m.cs.length m.cs.length)).setCell ⟨w.heap.size + 1, 1, none⟩ (.slice (some ⟨g1, 0, none⟩) m.ts.length m.ts.length)).setCell ⟨w.heap.size + 1, 2, none⟩ (.slice (some ⟨g2, 0, none⟩) m.zs.length m.zs.length)).setCell ⟨w.heap.size + 1, 3, none⟩ (.int .i64 m.ph)).setCell ⟨w.heap.size + 1, 4, none⟩ (.slice (some ⟨g3, 0, none⟩) m.gs.length m.gs.length)).setCell ⟨w.heap.size + 1, 5, none⟩ (.slice (some ⟨g4, 0, none⟩) m.bs.length m.bs.length)) (w.heap.size + 1) 45 #[.slice (some ⟨g0, 0, none⟩) m.cs.length m.cs.length, .slice (some ⟨g1, 0, none⟩) m.ts.length m.ts.length, .slice (some ⟨g2, 0, none⟩) m.zs.length m.zs.length, .int .i64 m.ph, .slice (some ⟨g3, 0, none⟩) m.gs.length m.gs.length, .slice (some ⟨g4, 0, none⟩) m.bs.length m.bs.length, .int .i64 0, .slice none 0 0, .slice none 0 0, .slice none 0 0, .bool false, .int .i64 0] := Cells.set 5 (.slice (some ⟨g4, 0, none⟩) m.bs.length m.bs.length) p4
  have p6 : Cells (((((((W8.setCell ⟨w.heap.size + 1, 0, none⟩ (.slice (some ⟨g0, 0, none⟩) m.cs.length m.cs.length)).setCell ⟨w.heap.size + 1, 1, none⟩ (.slice (some ⟨g1, 0, none⟩) m.ts.length m.ts.length)).setCell ⟨w.heap.size + 1, 2, none⟩ (.slice (some ⟨g2, 0, none⟩) m.zs.length m.zs.length)).setCell ⟨w.heap.size + 1, 3, none⟩ (.int .i64 m.ph)).setCell ⟨w.heap.size + 1, 4, none⟩ (.slice (some ⟨g3, 0, none⟩) m.gs.length m.gs.length)).setCell ⟨w.heap.size + 1, 5, none⟩ (.slice (some ⟨g4, 0, none⟩) m.bs.length m.bs.length)).setCell ⟨w.heap.size + 1, 6, none⟩ (.int .i64 m.at')) (w.heap.size + 1) 45 #[.slice (some ⟨g0, 0, none⟩) m.cs.length m.cs.length, .slice (some ⟨g1, 0, none⟩) m.ts.length m.ts.length, .slice (some ⟨g2, 0, none⟩) m.zs.length m.zs.length, .int .i64 m.ph, .slice (some ⟨g3, 0, none⟩) m.gs.length m.gs.length, .slice (some ⟨g4, 0, none⟩) m.bs.length m.bs.length, .int .i64 m.at', .slice none 0 0, .slice none 0 0, .slice none 0 0, .bool false, .int .i64 0] := Cells.set 6 (.int .i64 m.at') p5
  have p7 : Cells ((((((((W8.setCell ⟨w.heap.size + 1, 0, none⟩ (.slice (some ⟨g0, 0, none⟩) m.cs.length m.cs.length)).setCell ⟨w.heap.size + 1, 1, none⟩ (.slice (some ⟨g1, 0, none⟩) m.ts.length m.ts.length)).setCell ⟨w.heap.size + 1, 2, none⟩ (.slice (some ⟨g2, 0, none⟩) m.zs.length m.zs.length)).setCell ⟨w.heap.size + 1, 3, none⟩ (.int .i64 m.ph)).setCell ⟨w.heap.size + 1, 4, none⟩ (.slice (some ⟨g3, 0, none⟩) m.gs.length m.gs.length)).setCell ⟨w.heap.size + 1, 5, none⟩ (.slice (some ⟨g4, 0, none⟩) m.bs.length m.bs.length)).setCell ⟨w.heap.size + 1, 6, none⟩ (.int .i64 m.at')).setCell ⟨w.heap.size + 1, 7, none⟩ (.slice (some ⟨g5, 0, none⟩) m.fs.length m.fs.length)) (w.heap.size + 1) 45 #[.slice (some ⟨g0, 0, none⟩) m.cs.length m.cs.length, .slice (some ⟨g1, 0, none⟩) m.ts.length m.ts.length, .slice (some ⟨g2, 0, none⟩) m.zs.length m.zs.length, .int .i64 m.ph, .slice (some ⟨g3, 0, none⟩) m.gs.length m.gs.length, .slice (some ⟨g4, 0, none⟩) m.bs.length m.bs.length, .int .i64 m.at', .slice (some ⟨g5, 0, none⟩) m.fs.length m.fs.length, .slice none 0 0, .slice none 0 0, .bool false, .int .i64 0] := Cells.set 7 (.slice (some ⟨g5, 0, none⟩) m.fs.length m.fs.length) p6
  have p8 : Cells (((((((((W8.setCell ⟨w.heap.size + 1, 0, none⟩ (.slice (some ⟨g0, 0, none⟩) m.cs.length m.cs.length)).setCell ⟨w.heap.size + 1, 1, none⟩ (.slice (some ⟨g1, 0, none⟩) m.ts.length m.ts.length)).setCell ⟨w.heap.size + 1, 2, none⟩ (.slice (some ⟨g2, 0, none⟩) m.zs.length m.zs.length)).setCell ⟨w.heap.size + 1, 3, none⟩ (.int .i64 m.ph)).setCell ⟨w.heap.size + 1, 4, none⟩ (.slice (some ⟨g3, 0, none⟩) m.gs.length m.gs.length)).setCell ⟨w.heap.size + 1, 5, none⟩ (.slice (some ⟨g4, 0, none⟩) m.bs.length m.bs.length)).setCell ⟨w.heap.size + 1, 6, none⟩ (.int .i64 m.at')).setCell ⟨w.heap.size + 1, 7, none⟩ (.slice (some ⟨g5, 0, none⟩) m.fs.length m.fs.length)).setCell ⟨w.heap.size + 1, 8, none⟩ (.slice (some ⟨g6, 0, none⟩) m.ks.length m.ks.length)) (w.heap.size + 1) 45 #[.slice (some ⟨g0, 0, none⟩) m.cs.length m.cs.length, .slice (some ⟨g1, 0, none⟩) m.ts.length m.ts.length, .slice (some ⟨g2, 0, none⟩) m.zs.length m.zs.length, .int .i64 m.ph, .slice (some ⟨g3, 0, none⟩) m.gs.length m.gs.length, .slice (some ⟨g4, 0, none⟩) m.bs.length m.bs.length, .int .i64 m.at', .slice (some ⟨g5, 0, none⟩) m.fs.length m.fs.length, .slice (some ⟨g6, 0, none⟩) m.ks.length m.ks.length, .slice none 0 0, .bool false, .int .i64 0] := Cells.set 8 (.slice (some ⟨g6, 0, none⟩) m.ks.length m.ks.length) p7
  have p9 : Cells ((((((((((W8.setCell ⟨w.heap.size + 1, 0, none⟩ (.slice (some ⟨g0, 0, none⟩) m.cs.length m.cs.length)).setCell ⟨w.heap.size + 1, 1, none⟩ (.slice (some ⟨g1, 0, none⟩) m.ts.length m.ts.length)).setCell ⟨w.heap.size + 1, 2, none⟩ (.slice (some ⟨g2, 0, none⟩) m.zs.length m.zs.length)).setCell ⟨w.heap.size + 1, 3, none⟩ (.int .i64 m.ph)).setCell ⟨w.heap.size + 1, 4, none⟩ (.slice (some ⟨g3, 0, none⟩) m.gs.length m.gs.length)).setCell ⟨w.heap.size + 1, 5, none⟩ (.slice (some ⟨g4, 0, none⟩) m.bs.length m.bs.length)).setCell ⟨w.heap.size + 1, 6, none⟩ (.int .i64 m.at')).setCell ⟨w.heap.size + 1, 7, none⟩ (.slice (some ⟨g5, 0, none⟩) m.fs.length m.fs.length)).setCell ⟨w.heap.size + 1, 8, none⟩ (.slice (some ⟨g6, 0, none⟩) m.ks.length m.ks.length)).setCell ⟨w.heap.size + 1, 9, none⟩ (.slice (some ⟨g7, 0, none⟩) m.ls.length m.ls.length)) (w.heap.size + 1) 45 #[.slice (some ⟨g0, 0, none⟩) m.cs.length m.cs.length, .slice (some ⟨g1, 0, none⟩) m.ts.length m.ts.length, .slice (some ⟨g2, 0, none⟩) m.zs.length m.zs.length, .int .i64 m.ph, .slice (some ⟨g3, 0, none⟩) m.gs.length m.gs.length, .slice (some ⟨g4, 0, none⟩) m.bs.length m.bs.length, .int .i64 m.at', .slice (some ⟨g5, 0, none⟩) m.fs.length m.fs.length, .slice (some ⟨g6, 0, none⟩) m.ks.length m.ks.length, .slice (some ⟨g7, 0, none⟩) m.ls.length m.ls.length, .bool false, .int .i64 0] := Cells.set 9 (.slice (some ⟨g7, 0, none⟩) m.ls.length m.ls.length) p8
  have p10 : Cells (((((((((((W8.setCell ⟨w.heap.size + 1, 0, none⟩ (.slice (some ⟨g0, 0, none⟩) m.cs.length m.cs.length)).setCell ⟨w.heap.size + 1, 1, none⟩ (.slice (some ⟨g1, 0, none⟩) m.ts.length m.ts.length)).setCell ⟨w.heap.size + 1, 2, none⟩ (.slice (some ⟨g2, 0, none⟩) m.zs.length m.zs.length)).setCell ⟨w.heap.size + 1, 3, none⟩ (.int .i64 m.ph)).setCell ⟨w.heap.size + 1, 4, none⟩ (.slice (some ⟨g3, 0, none⟩) m.gs.length m.gs.length)).setCell ⟨w.heap.size + 1, 5, none⟩ (.slice (some ⟨g4, 0, none⟩) m.bs.length m.bs.length)).setCell ⟨w.heap.size + 1, 6, none⟩ (.int .i64 m.at')).setCell ⟨w.heap.size + 1, 7, none⟩ (.slice (some ⟨g5, 0, none⟩) m.fs.length m.fs.length)).setCell ⟨w.heap.size + 1, 8, none⟩ (.slice (some ⟨g6, 0, none⟩) m.ks.length m.ks.length)).setCell ⟨w.heap.size + 1, 9, none⟩ (.slice (some ⟨g7, 0, none⟩) m.ls.length m.ls.length)).setCell ⟨w.heap.size + 1, 10, none⟩ (.bool m.ov)) (w.heap.size + 1) 45 #[.slice (some ⟨g0, 0, none⟩) m.cs.length m.cs.length, .slice (some ⟨g1, 0, none⟩) m.ts.length m.ts.length, .slice (some ⟨g2, 0, none⟩) m.zs.length m.zs.length, .int .i64 m.ph, .slice (some ⟨g3, 0, none⟩) m.gs.length m.gs.length, .slice (some ⟨g4, 0, none⟩) m.bs.length m.bs.length, .int .i64 m.at', .slice (some ⟨g5, 0, none⟩) m.fs.length m.fs.length, .slice (some ⟨g6, 0, none⟩) m.ks.length m.ks.length, .slice (some ⟨g7, 0, none⟩) m.ls.length m.ls.length, .bool m.ov, .int .i64 0] := Cells.set 10 (.bool m.ov) p9
  have p11 : Cells ((((((((((((W8.setCell ⟨w.heap.size + 1, 0, none⟩ (.slice (some ⟨g0, 0, none⟩) m.cs.length m.cs.length)).setCell ⟨w.heap.size + 1, 1, none⟩ (.slice (some ⟨g1, 0, none⟩) m.ts.length m.ts.length)).setCell ⟨w.heap.size + 1, 2, none⟩ (.slice (some ⟨g2, 0, none⟩) m.zs.length m.zs.length)).setCell ⟨w.heap.size + 1, 3, none⟩ (.int .i64 m.ph)).setCell ⟨w.heap.size + 1, 4, none⟩ (.slice (some ⟨g3, 0, none⟩) m.gs.length m.gs.length)).setCell ⟨w.heap.size + 1, 5, none⟩ (.slice (some ⟨g4, 0, none⟩) m.bs.length m.bs.length)).setCell ⟨w.heap.size + 1, 6, none⟩ (.int .i64 m.at')).setCell ⟨w.heap.size + 1, 7, none⟩ (.slice (some ⟨g5, 0, none⟩) m.fs.length m.fs.length)).setCell ⟨w.heap.size + 1, 8, none⟩ (.slice (some ⟨g6, 0, none⟩) m.ks.length m.ks.length)).setCell ⟨w.heap.size + 1, 9, none⟩ (.slice (some ⟨g7, 0, none⟩) m.ls.length m.ls.length)).setCell ⟨w.heap.size + 1, 10, none⟩ (.bool m.ov)).setCell ⟨w.heap.size + 1, 11, none⟩ (.int .i64 m.cd)) (w.heap.size + 1) 45 #[.slice (some ⟨g0, 0, none⟩) m.cs.length m.cs.length, .slice (some ⟨g1, 0, none⟩) m.ts.length m.ts.length, .slice (some ⟨g2, 0, none⟩) m.zs.length m.zs.length, .int .i64 m.ph, .slice (some ⟨g3, 0, none⟩) m.gs.length m.gs.length, .slice (some ⟨g4, 0, none⟩) m.bs.length m.bs.length, .int .i64 m.at', .slice (some ⟨g5, 0, none⟩) m.fs.length m.fs.length, .slice (some ⟨g6, 0, none⟩) m.ks.length m.ks.length, .slice (some ⟨g7, 0, none⟩) m.ls.length m.ls.length, .bool m.ov, .int .i64 m.cd] := Cells.set 11 (.int .i64 m.cd) p10
  have q := p11
  have q0 := q.cell 0
  have q1 := q.cell 1
  have q2 := q.cell 2
  have q3 := q.cell 3
  have q4 := q.cell 4
  have q5 := q.cell 5
  have q6 := q.cell 6
  have q7 := q.cell 7
  have q8 := q.cell 8
  have q9 := q.cell 9
  have q10 := q.cell 10
  have q11 := q.cell 11
  have F_c : CodX (((((((((((((W8.setCell ⟨w.heap.size + 1, 0, none⟩ (.slice (some ⟨g0, 0, none⟩) m.cs.length m.cs.length)).setCell ⟨w.heap.size + 1, 1, none⟩ (.slice (some ⟨g1, 0, none⟩) m.ts.length m.ts.length)).setCell ⟨w.heap.size + 1, 2, none⟩ (.slice (some ⟨g2, 0, none⟩) m.zs.length m.zs.length)).setCell ⟨w.heap.size + 1, 3, none⟩ (.int .i64 m.ph)).setCell ⟨w.heap.size + 1, 4, none⟩ (.slice (some ⟨g3, 0, none⟩) m.gs.length m.gs.length)).setCell ⟨w.heap.size + 1, 5, none⟩ (.slice (some ⟨g4, 0, none⟩) m.bs.length m.bs.length)).setCell ⟨w.heap.size + 1, 6, none⟩ (.int .i64 m.at')).setCell ⟨w.heap.size + 1, 7, none⟩ (.slice (some ⟨g5, 0, none⟩) m.fs.length m.fs.length)).setCell ⟨w.heap.size + 1, 8, none⟩ (.slice (some ⟨g6, 0, none⟩) m.ks.length m.ks.length)).setCell ⟨w.heap.size + 1, 9, none⟩ (.slice (some ⟨g7, 0, none⟩) m.ls.length m.ls.length)).setCell ⟨w.heap.size + 1, 10, none⟩ (.bool m.ov)).setCell ⟨w.heap.size + 1, 11, none⟩ (.int .i64 m.cd))) g0 m.cs := (CodX.other ((CodX.other ((CodX.other ((CodX.other ((CodX.other ((CodX.other ((CodX.other ((CodX.other ((CodX.other ((CodX.other ((CodX.other ((CodX.other (Q_c.out) (by omega))) (by omega))) (by omega))) (by omega))) (by omega))) (by omega))) (by omega))) (by omega))) (by omega))) (by omega))) (by omega))) (by omega))
  have F_t : RowT (((((((((((((W8.setCell ⟨w.heap.size + 1, 0, none⟩ (.slice (some ⟨g0, 0, none⟩) m.cs.length m.cs.length)).setCell ⟨w.heap.size + 1, 1, none⟩ (.slice (some ⟨g1, 0, none⟩) m.ts.length m.ts.length)).setCell ⟨w.heap.size + 1, 2, none⟩ (.slice (some ⟨g2, 0, none⟩) m.zs.length m.zs.length)).setCell ⟨w.heap.size + 1, 3, none⟩ (.int .i64 m.ph)).setCell ⟨w.heap.size + 1, 4, none⟩ (.slice (some ⟨g3, 0, none⟩) m.gs.length m.gs.length)).setCell ⟨w.heap.size + 1, 5, none⟩ (.slice (some ⟨g4, 0, none⟩) m.bs.length m.bs.length)).setCell ⟨w.heap.size + 1, 6, none⟩ (.int .i64 m.at')).setCell ⟨w.heap.size + 1, 7, none⟩ (.slice (some ⟨g5, 0, none⟩) m.fs.length m.fs.length)).setCell ⟨w.heap.size + 1, 8, none⟩ (.slice (some ⟨g6, 0, none⟩) m.ks.length m.ks.length)).setCell ⟨w.heap.size + 1, 9, none⟩ (.slice (some ⟨g7, 0, none⟩) m.ls.length m.ls.length)).setCell ⟨w.heap.size + 1, 10, none⟩ (.bool m.ov)).setCell ⟨w.heap.size + 1, 11, none⟩ (.int .i64 m.cd))) g1 m.ts m.ts.length := (RowT.other ((RowT.other ((RowT.other ((RowT.other ((RowT.other ((RowT.other ((RowT.other ((RowT.other ((RowT.other ((RowT.other ((RowT.other ((RowT.other (Q_t.out) (by omega))) (by omega))) (by omega))) (by omega))) (by omega))) (by omega))) (by omega))) (by omega))) (by omega))) (by omega))) (by omega))) (by omega))
  have F_z : IntX (((((((((((((W8.setCell ⟨w.heap.size + 1, 0, none⟩ (.slice (some ⟨g0, 0, none⟩) m.cs.length m.cs.length)).setCell ⟨w.heap.size + 1, 1, none⟩ (.slice (some ⟨g1, 0, none⟩) m.ts.length m.ts.length)).setCell ⟨w.heap.size + 1, 2, none⟩ (.slice (some ⟨g2, 0, none⟩) m.zs.length m.zs.length)).setCell ⟨w.heap.size + 1, 3, none⟩ (.int .i64 m.ph)).setCell ⟨w.heap.size + 1, 4, none⟩ (.slice (some ⟨g3, 0, none⟩) m.gs.length m.gs.length)).setCell ⟨w.heap.size + 1, 5, none⟩ (.slice (some ⟨g4, 0, none⟩) m.bs.length m.bs.length)).setCell ⟨w.heap.size + 1, 6, none⟩ (.int .i64 m.at')).setCell ⟨w.heap.size + 1, 7, none⟩ (.slice (some ⟨g5, 0, none⟩) m.fs.length m.fs.length)).setCell ⟨w.heap.size + 1, 8, none⟩ (.slice (some ⟨g6, 0, none⟩) m.ks.length m.ks.length)).setCell ⟨w.heap.size + 1, 9, none⟩ (.slice (some ⟨g7, 0, none⟩) m.ls.length m.ls.length)).setCell ⟨w.heap.size + 1, 10, none⟩ (.bool m.ov)).setCell ⟨w.heap.size + 1, 11, none⟩ (.int .i64 m.cd))) g2 m.zs := (IntX.other ((IntX.other ((IntX.other ((IntX.other ((IntX.other ((IntX.other ((IntX.other ((IntX.other ((IntX.other ((IntX.other ((IntX.other ((IntX.other (Q_z.out) (p := ⟨w.heap.size + 1, 0, none⟩) (by show _ ≠ w.heap.size + 1; omega) _)) (p := ⟨w.heap.size + 1, 1, none⟩) (by show _ ≠ w.heap.size + 1; omega) _)) (p := ⟨w.heap.size + 1, 2, none⟩) (by show _ ≠ w.heap.size + 1; omega) _)) (p := ⟨w.heap.size + 1, 3, none⟩) (by show _ ≠ w.heap.size + 1; omega) _)) (p := ⟨w.heap.size + 1, 4, none⟩) (by show _ ≠ w.heap.size + 1; omega) _)) (p := ⟨w.heap.size + 1, 5, none⟩) (by show _ ≠ w.heap.size + 1; omega) _)) (p := ⟨w.heap.size + 1, 6, none⟩) (by show _ ≠ w.heap.size + 1; omega) _)) (p := ⟨w.heap.size + 1, 7, none⟩) (by show _ ≠ w.heap.size + 1; omega) _)) (p := ⟨w.heap.size + 1, 8, none⟩) (by show _ ≠ w.heap.size + 1; omega) _)) (p := ⟨w.heap.size + 1, 9, none⟩) (by show _ ≠ w.heap.size + 1; omega) _)) (p := ⟨w.heap.size + 1, 10, none⟩) (by show _ ≠ w.heap.size + 1; omega) _)) (p := ⟨w.heap.size + 1, 11, none⟩) (by show _ ≠ w.heap.size + 1; omega) _)
  have F_g : IntX (((((((((((((W8.setCell ⟨w.heap.size + 1, 0, none⟩ (.slice (some ⟨g0, 0, none⟩) m.cs.length m.cs.length)).setCell ⟨w.heap.size + 1, 1, none⟩ (.slice (some ⟨g1, 0, none⟩) m.ts.length m.ts.length)).setCell ⟨w.heap.size + 1, 2, none⟩ (.slice (some ⟨g2, 0, none⟩) m.zs.length m.zs.length)).setCell ⟨w.heap.size + 1, 3, none⟩ (.int .i64 m.ph)).setCell ⟨w.heap.size + 1, 4, none⟩ (.slice (some ⟨g3, 0, none⟩) m.gs.length m.gs.length)).setCell ⟨w.heap.size + 1, 5, none⟩ (.slice (some ⟨g4, 0, none⟩) m.bs.length m.bs.length)).setCell ⟨w.heap.size + 1, 6, none⟩ (.int .i64 m.at')).setCell ⟨w.heap.size + 1, 7, none⟩ (.slice (some ⟨g5, 0, none⟩) m.fs.length m.fs.length)).setCell ⟨w.heap.size + 1, 8, none⟩ (.slice (some ⟨g6, 0, none⟩) m.ks.length m.ks.length)).setCell ⟨w.heap.size + 1, 9, none⟩ (.slice (some ⟨g7, 0, none⟩) m.ls.length m.ls.length)).setCell ⟨w.heap.size + 1, 10, none⟩ (.bool m.ov)).setCell ⟨w.heap.size + 1, 11, none⟩ (.int .i64 m.cd))) g3 m.gs := (IntX.other ((IntX.other ((IntX.other ((IntX.other ((IntX.other ((IntX.other ((IntX.other ((IntX.other ((IntX.other ((IntX.other ((IntX.other ((IntX.other (Q_g.out) (p := ⟨w.heap.size + 1, 0, none⟩) (by show _ ≠ w.heap.size + 1; omega) _)) (p := ⟨w.heap.size + 1, 1, none⟩) (by show _ ≠ w.heap.size + 1; omega) _)) (p := ⟨w.heap.size + 1, 2, none⟩) (by show _ ≠ w.heap.size + 1; omega) _)) (p := ⟨w.heap.size + 1, 3, none⟩) (by show _ ≠ w.heap.size + 1; omega) _)) (p := ⟨w.heap.size + 1, 4, none⟩) (by show _ ≠ w.heap.size + 1; omega) _)) (p := ⟨w.heap.size + 1, 5, none⟩) (by show _ ≠ w.heap.size + 1; omega) _)) (p := ⟨w.heap.size + 1, 6, none⟩) (by show _ ≠ w.heap.size + 1; omega) _)) (p := ⟨w.heap.size + 1, 7, none⟩) (by show _ ≠ w.heap.size + 1; omega) _)) (p := ⟨w.heap.size + 1, 8, none⟩) (by show _ ≠ w.heap.size + 1; omega) _)) (p := ⟨w.heap.size + 1, 9, none⟩) (by show _ ≠ w.heap.size + 1; omega) _)) (p := ⟨w.heap.size + 1, 10, none⟩) (by show _ ≠ w.heap.size + 1; omega) _)) (p := ⟨w.heap.size + 1, 11, none⟩) (by show _ ≠ w.heap.size + 1; omega) _)
  have F_b : IntX (((((((((((((W8.setCell ⟨w.heap.size + 1, 0, none⟩ (.slice (some ⟨g0, 0, none⟩) m.cs.length m.cs.length)).setCell ⟨w.heap.size + 1, 1, none⟩ (.slice (some ⟨g1, 0, none⟩) m.ts.length m.ts.length)).setCell ⟨w.heap.size + 1, 2, none⟩ (.slice (some ⟨g2, 0, none⟩) m.zs.length m.zs.length)).setCell ⟨w.heap.size + 1, 3, none⟩ (.int .i64 m.ph)).setCell ⟨w.heap.size + 1, 4, none⟩ (.slice (some ⟨g3, 0, none⟩) m.gs.length m.gs.length)).setCell ⟨w.heap.size + 1, 5, none⟩ (.slice (some ⟨g4, 0, none⟩) m.bs.length m.bs.length)).setCell ⟨w.heap.size + 1, 6, none⟩ (.int .i64 m.at')).setCell ⟨w.heap.size + 1, 7, none⟩ (.slice (some ⟨g5, 0, none⟩) m.fs.length m.fs.length)).setCell ⟨w.heap.size + 1, 8, none⟩ (.slice (some ⟨g6, 0, none⟩) m.ks.length m.ks.length)).setCell ⟨w.heap.size + 1, 9, none⟩ (.slice (some ⟨g7, 0, none⟩) m.ls.length m.ls.length)).setCell ⟨w.heap.size + 1, 10, none⟩ (.bool m.ov)).setCell ⟨w.heap.size + 1, 11, none⟩ (.int .i64 m.cd))) g4 m.bs := (IntX.other ((IntX.other ((IntX.other ((IntX.other ((IntX.other ((IntX.other ((IntX.other ((IntX.other ((IntX.other ((IntX.other ((IntX.other ((IntX.other (Q_b.out) (p := ⟨w.heap.size + 1, 0, none⟩) (by show _ ≠ w.heap.size + 1; omega) _)) (p := ⟨w.heap.size + 1, 1, none⟩) (by show _ ≠ w.heap.size + 1; omega) _)) (p := ⟨w.heap.size + 1, 2, none⟩) (by show _ ≠ w.heap.size + 1; omega) _)) (p := ⟨w.heap.size + 1, 3, none⟩) (by show _ ≠ w.heap.size + 1; omega) _)) (p := ⟨w.heap.size + 1, 4, none⟩) (by show _ ≠ w.heap.size + 1; omega) _)) (p := ⟨w.heap.size + 1, 5, none⟩) (by show _ ≠ w.heap.size + 1; omega) _)) (p := ⟨w.heap.size + 1, 6, none⟩) (by show _ ≠ w.heap.size + 1; omega) _)) (p := ⟨w.heap.size + 1, 7, none⟩) (by show _ ≠ w.heap.size + 1; omega) _)) (p := ⟨w.heap.size + 1, 8, none⟩) (by show _ ≠ w.heap.size + 1; omega) _)) (p := ⟨w.heap.size + 1, 9, none⟩) (by show _ ≠ w.heap.size + 1; omega) _)) (p := ⟨w.heap.size + 1, 10, none⟩) (by show _ ≠ w.heap.size + 1; omega) _)) (p := ⟨w.heap.size + 1, 11, none⟩) (by show _ ≠ w.heap.size + 1; omega) _)
  have F_f : RowF (((((((((((((W8.setCell ⟨w.heap.size + 1, 0, none⟩ (.slice (some ⟨g0, 0, none⟩) m.cs.length m.cs.length)).setCell ⟨w.heap.size + 1, 1, none⟩ (.slice (some ⟨g1, 0, none⟩) m.ts.length m.ts.length)).setCell ⟨w.heap.size + 1, 2, none⟩ (.slice (some ⟨g2, 0, none⟩) m.zs.length m.zs.length)).setCell ⟨w.heap.size + 1, 3, none⟩ (.int .i64 m.ph)).setCell ⟨w.heap.size + 1, 4, none⟩ (.slice (some ⟨g3, 0, none⟩) m.gs.length m.gs.length)).setCell ⟨w.heap.size + 1, 5, none⟩ (.slice (some ⟨g4, 0, none⟩) m.bs.length m.bs.length)).setCell ⟨w.heap.size + 1, 6, none⟩ (.int .i64 m.at')).setCell ⟨w.heap.size + 1, 7, none⟩ (.slice (some ⟨g5, 0, none⟩) m.fs.length m.fs.length)).setCell ⟨w.heap.size + 1, 8, none⟩ (.slice (some ⟨g6, 0, none⟩) m.ks.length m.ks.length)).setCell ⟨w.heap.size + 1, 9, none⟩ (.slice (some ⟨g7, 0, none⟩) m.ls.length m.ls.length)).setCell ⟨w.heap.size + 1, 10, none⟩ (.bool m.ov)).setCell ⟨w.heap.size + 1, 11, none⟩ (.int .i64 m.cd))) g5 m.fs m.fs.length := (RowF.other ((RowF.other ((RowF.other ((RowF.other ((RowF.other ((RowF.other ((RowF.other ((RowF.other ((RowF.other ((RowF.other ((RowF.other ((RowF.other (Q_f.out) (by omega))) (by omega))) (by omega))) (by omega))) (by omega))) (by omega))) (by omega))) (by omega))) (by omega))) (by omega))) (by omega))) (by omega))
  have F_k : IntX (((((((((((((W8.setCell ⟨w.heap.size + 1, 0, none⟩ (.slice (some ⟨g0, 0, none⟩) m.cs.length m.cs.length)).setCell ⟨w.heap.size + 1, 1, none⟩ (.slice (some ⟨g1, 0, none⟩) m.ts.length m.ts.length)).setCell ⟨w.heap.size + 1, 2, none⟩ (.slice (some ⟨g2, 0, none⟩) m.zs.length m.zs.length)).setCell ⟨w.heap.size + 1, 3, none⟩ (.int .i64 m.ph)).setCell ⟨w.heap.size + 1, 4, none⟩ (.slice (some ⟨g3, 0, none⟩) m.gs.length m.gs.length)).setCell ⟨w.heap.size + 1, 5, none⟩ (.slice (some ⟨g4, 0, none⟩) m.bs.length m.bs.length)).setCell ⟨w.heap.size + 1, 6, none⟩ (.int .i64 m.at')).setCell ⟨w.heap.size + 1, 7, none⟩ (.slice (some ⟨g5, 0, none⟩) m.fs.length m.fs.length)).setCell ⟨w.heap.size + 1, 8, none⟩ (.slice (some ⟨g6, 0, none⟩) m.ks.length m.ks.length)).setCell ⟨w.heap.size + 1, 9, none⟩ (.slice (some ⟨g7, 0, none⟩) m.ls.length m.ls.length)).setCell ⟨w.heap.size + 1, 10, none⟩ (.bool m.ov)).setCell ⟨w.heap.size + 1, 11, none⟩ (.int .i64 m.cd))) g6 m.ks := (IntX.other ((IntX.other ((IntX.other ((IntX.other ((IntX.other ((IntX.other ((IntX.other ((IntX.other ((IntX.other ((IntX.other ((IntX.other ((IntX.other (Q_k.out) (p := ⟨w.heap.size + 1, 0, none⟩) (by show _ ≠ w.heap.size + 1; omega) _)) (p := ⟨w.heap.size + 1, 1, none⟩) (by show _ ≠ w.heap.size + 1; omega) _)) (p := ⟨w.heap.size + 1, 2, none⟩) (by show _ ≠ w.heap.size + 1; omega) _)) (p := ⟨w.heap.size + 1, 3, none⟩) (by show _ ≠ w.heap.size + 1; omega) _)) (p := ⟨w.heap.size + 1, 4, none⟩) (by show _ ≠ w.heap.size + 1; omega) _)) (p := ⟨w.heap.size + 1, 5, none⟩) (by show _ ≠ w.heap.size + 1; omega) _)) (p := ⟨w.heap.size + 1, 6, none⟩) (by show _ ≠ w.heap.size + 1; omega) _)) (p := ⟨w.heap.size + 1, 7, none⟩) (by show _ ≠ w.heap.size + 1; omega) _)) (p := ⟨w.heap.size + 1, 8, none⟩) (by show _ ≠ w.heap.size + 1; omega) _)) (p := ⟨w.heap.size + 1, 9, none⟩) (by show _ ≠ w.heap.size + 1; omega) _)) (p := ⟨w.heap.size + 1, 10, none⟩) (by show _ ≠ w.heap.size + 1; omega) _)) (p := ⟨w.heap.size + 1, 11, none⟩) (by show _ ≠ w.heap.size + 1; omega) _)
  have F_l : RowT (((((((((((((W8.setCell ⟨w.heap.size + 1, 0, none⟩ (.slice (some ⟨g0, 0, none⟩) m.cs.length m.cs.length)).setCell ⟨w.heap.size + 1, 1, none⟩ (.slice (some ⟨g1, 0, none⟩) m.ts.length m.ts.length)).setCell ⟨w.heap.size + 1, 2, none⟩ (.slice (some ⟨g2, 0, none⟩) m.zs.length m.zs.length)).setCell ⟨w.heap.size + 1, 3, none⟩ (.int .i64 m.ph)).setCell ⟨w.heap.size + 1, 4, none⟩ (.slice (some ⟨g3, 0, none⟩) m.gs.length m.gs.length)).setCell ⟨w.heap.size + 1, 5, none⟩ (.slice (some ⟨g4, 0, none⟩) m.bs.length m.bs.length)).setCell ⟨w.heap.size + 1, 6, none⟩ (.int .i64 m.at')).setCell ⟨w.heap.size + 1, 7, none⟩ (.slice (some ⟨g5, 0, none⟩) m.fs.length m.fs.length)).setCell ⟨w.heap.size + 1, 8, none⟩ (.slice (some ⟨g6, 0, none⟩) m.ks.length m.ks.length)).setCell ⟨w.heap.size + 1, 9, none⟩ (.slice (some ⟨g7, 0, none⟩) m.ls.length m.ls.length)).setCell ⟨w.heap.size + 1, 10, none⟩ (.bool m.ov)).setCell ⟨w.heap.size + 1, 11, none⟩ (.int .i64 m.cd))) g7 m.ls m.ls.length := (RowT.other ((RowT.other ((RowT.other ((RowT.other ((RowT.other ((RowT.other ((RowT.other ((RowT.other ((RowT.other ((RowT.other ((RowT.other ((RowT.other (Q_l.out) (by omega))) (by omega))) (by omega))) (by omega))) (by omega))) (by omega))) (by omega))) (by omega))) (by omega))) (by omega))) (by omega))) (by omega))
  refine bodyPost_ret (v := .agg #[.slice (some ⟨g0, 0, none⟩) m.cs.length m.cs.length, .slice (some ⟨g1, 0, none⟩) m.ts.length m.ts.length, .slice (some ⟨g2, 0, none⟩) m.zs.length m.zs.length, .int .i64 m.ph, .slice (some ⟨g3, 0, none⟩) m.gs.length m.gs.length, .slice (some ⟨g4, 0, none⟩) m.bs.length m.bs.length, .int .i64 m.at', .slice (some ⟨g5, 0, none⟩) m.fs.length m.fs.length, .slice (some ⟨g6, 0, none⟩) m.ks.length m.ks.length, .slice (some ⟨g7, 0, none⟩) m.ls.length m.ls.length, .bool m.ov, .int .i64 m.cd]) (by simp [results, Try.results6, go_sem, q0, q1, q2, q3, q4, q5, q6, q7, q8, q9, q10, q11]) rfl ⟨g0, g1, g2, g3, g4, g5, g6, g7, rfl, ⟨by omega, by omega, by omega, by omega, by omega, by omega, by omega, by omega, F_c.codsO, F_t.done, F_z.1, F_g.1, F_b.1, F_f.done, F_k.1, F_l.done⟩, ⟨⟨by omega, F_c.lt⟩, ⟨by omega, F_t.lt⟩, ⟨by omega, F_z.1.lt⟩, ⟨by omega, F_g.1.lt⟩, ⟨by omega, F_b.1.lt⟩, ⟨by omega, F_f.lt⟩, ⟨by omega, F_k.1.lt⟩, ⟨by omega, F_l.lt⟩, F_c.wr (lo := w.heap.size) (by omega), F_t.wr, F_z.wr, F_g.wr, F_b.wr, F_f.wr, F_k.wr, F_l.wr⟩, ?_⟩
  exact (Kept.set (Kept.set (Kept.set (Kept.set (Kept.set (Kept.set (Kept.set (Kept.set (Kept.set (Kept.set (Kept.set (Kept.set HK.out (by simp) _) (by simp) _) (by simp) _) (by simp) _) (by simp) _) (by simp) _) (by simp) _) (by simp) _) (by simp) _) (by simp) _) (by simp) _) (by simp) _)
end Go.Proofs.Ytgempjjnfpmndaa
