/-
  What the laws lay as marks into units, slabs, markers and machines of one's own, weakly told (chapter 17).
-/
import Derived.Test.YtgempjjnfpmndaaGreatDoorGrqTr
import Derived.Test.YtgempjjnfpmndaaGreatDoorGrpMu
namespace Go.Proofs.YtgempjjnfpmndaaGreatDoor
open Go.RowKit
set_option linter.unusedSimpArgs false
set_option linter.unusedVariables false
theorem Cells.tr {lo hi : Nat} {a b : World} {B : Nat} {t : TypeId} {cs : Array Value} (h : Cells a B t cs) (k : Tr lo hi a b) (hB : hi ≤ B) : Cells b B t cs := (k.block B h.lt (by omega)).trans h
/-- A machine whose rows may be marked. -/
structure MchW (W : World) (lo hi g0 g1 g2 g3 g4 g5 g6 g7 : Nat) (m : Mch) : Prop where
  i0 : lo ≤ g0 ∧ g0 < hi
  i1 : lo ≤ g1 ∧ g1 < hi
  i2 : lo ≤ g2 ∧ g2 < hi
  i3 : lo ≤ g3 ∧ g3 < hi
  i4 : lo ≤ g4 ∧ g4 < hi
  i5 : lo ≤ g5 ∧ g5 < hi
  i6 : lo ≤ g6 ∧ g6 < hi
  i7 : lo ≤ g7 ∧ g7 < hi
  c : CodW W lo hi g0 m.cs
  t : WrI W g1 9 m.ts.length
  z : WrI W g2 3 m.zs.length
  g : WrI W g3 3 m.gs.length
  b : WrI W g4 3 m.bs.length
  f : WrI W g5 94 (m.fs.length * 3)
  k : WrI W g6 3 m.ks.length
  l : WrI W g7 9 m.ls.length
theorem MchW.tr {W W' : World} {lo hi g0 g1 g2 g3 g4 g5 g6 g7 : Nat} {m : Mch} (h : MchW W lo hi g0 g1 g2 g3 g4 g5 g6 g7 m) (k : Tr lo hi W W') : MchW W' lo hi g0 g1 g2 g3 g4 g5 g6 g7 m :=
  ⟨h.i0, h.i1, h.i2, h.i3, h.i4, h.i5, h.i6, h.i7, h.c.tr k, h.t.tr k, h.z.tr k, h.g.tr k, h.b.tr k, h.f.tr k, h.k.tr k, h.l.tr k⟩

set_option maxHeartbeats 8000000 in
set_option maxRecDepth 100000 in
theorem markUnit_w (w : World) (lo hi g0 g1 : Nat) (cs : List Cod) (ts : List ByteArray) (k : Nat) (hg0 : lo ≤ g0 ∧ g0 < hi) (hg1 : lo ≤ g1 ∧ g1 < hi) (hhi : hi ≤ w.heap.size) (hC : CodW w lo hi g0 cs) (hT : WrI w g1 9 ts.length) (hn : cs.length ≤ 1048576) (hs : sumC cs ≤ 1048576) (ht : ts.length ≤ 1048576) (hk1 : 1 ≤ k) (hk : k ≤ 50000000) :
    Calls Tryz.prog 18 #[.agg #[.slice (some ⟨g0, 0, none⟩) cs.length cs.length, .slice (some ⟨g1, 0, none⟩) ts.length ts.length], .int .i64 (k : Int)] w fun e w' => (∃ r : Nat, e = .returned (.int .i64 (r : Int)) ∧ k ≤ r ∧ r ≤ k + 7000000) ∧ Tr lo hi w w' := by
  have t0 : Tr lo hi w (w.alloc (.cells #[.slice (some ⟨g0, 0, none⟩) cs.length cs.length, .slice (some ⟨g1, 0, none⟩) ts.length ts.length] 38)) := Tr.of (Kept.alloc (Below.refl _ _) _)
  have bx := Cells.new w 38 #[.slice (some ⟨g0, 0, none⟩) cs.length cs.length, .slice (some ⟨g1, 0, none⟩) ts.length ts.length]
  have hM := markCodeS_w _ lo hi g0 cs.length cs k hg0 (hC.tr t0) hn hs hk1 (by omega)
  have hcn : cntC cs ≤ 5300000 := by unfold cntC; omega
  obtain ⟨q, hq⟩ : ∃ q : Nat, cntC cs + k = q := ⟨_, rfl⟩
  rw [hq] at hM
  have hq2 : k ≤ q ∧ q ≤ k + 5300000 := by omega
  have HM2 : Hid (∀ u, Tr lo hi (w.alloc (.cells #[.slice (some ⟨g0, 0, none⟩) cs.length cs.length, .slice (some ⟨g1, 0, none⟩) ts.length ts.length] 38)) u → Calls Tryz.prog 59 #[.slice (some ⟨g1, 0, none⟩) ts.length ts.length, .int .i64 (q : Int)] u fun e w' => e = .returned (.int .i64 ((ts.length : Int) + (q : Int))) ∧ Tr lo hi u w') := fun u hu => markStringS_w u lo hi g1 ts.length ts.length q hg1 ((hT.tr t0).tr hu) ht (by omega) (by omega)
  have HT0 : Hid _ := t0
  have HB : Hid (∀ u, Tr lo hi (w.alloc (.cells #[.slice (some ⟨g0, 0, none⟩) cs.length cs.length, .slice (some ⟨g1, 0, none⟩) ts.length ts.length] 38)) u → u.cell? ⟨w.heap.size, 1, none⟩ = some (.slice (some ⟨g1, 0, none⟩) ts.length ts.length)) := fun u hu => (Cells.tr bx hu hhi).cell 1
  have HQ : Hid (k ≤ q ∧ q ≤ k + 5300000 ∧ ts.length ≤ 1048576) := ⟨hq2.1, hq2.2, ht⟩
  clear hC hT t0 bx hq hcn hq2 hhi hg0 hg1 hk hk1 hn hs
  go_enter Tryz.func18, Tryz.ntmps18
  go_wp2_with fail
  refine hM.mono ?_
  rintro e w1 ⟨rfl, t1⟩
  have hM2 := HM2.out _ t1
  have a1 := HB.out _ t1
  clear hM HM2 HB
  go_wp2_with fail
  refine hM2.mono ?_
  rintro e w2 ⟨rfl, t2⟩
  clear hM2 a1
  go_wp2_with fail
  go_ret
  exact ⟨⟨ts.length + q, by first | rfl | (simp), by have := HQ.out; omega, by have := HQ.out; omega⟩, Tr.trans (Tr.trans HT0.out t1) t2⟩
set_option maxHeartbeats 8000000 in
set_option maxRecDepth 100000 in
theorem markSlab_w (w : World) (lo hi g n cap k : Nat) (hg : lo ≤ g ∧ g < hi) (hR : WrI w g 3 n) (hn : n ≤ 1048576) (hk1 : 1 ≤ k) (hk : k ≤ 60000000) :
    Calls Tryz.prog 60 #[.agg #[.slice (some ⟨g, 0, none⟩) n cap], .int .i64 (k : Int)] w fun e w' => (∃ r : Nat, e = .returned (.int .i64 (r : Int)) ∧ k ≤ r ∧ r ≤ k + 1048576) ∧ Tr lo hi w w' := by
  have t0 : Tr lo hi w (w.alloc (.cells #[.slice (some ⟨g, 0, none⟩) n cap] 39)) := Tr.of (Kept.alloc (Below.refl _ _) _)
  have hM := markIntS_w _ lo hi g cap n k hg (hR.tr t0) hn hk1 (by omega)
  have HT0 : Hid _ := t0
  clear hR t0
  go_enter Tryz.func60, Tryz.ntmps60
  go_wp2_with fail
  refine hM.mono ?_
  rintro e w1 ⟨rfl, t1⟩
  clear hM
  go_wp2_with fail
  go_ret
  exact ⟨⟨n + k, by first | rfl | (simp), by omega, by omega⟩, Tr.trans HT0.out t1⟩
set_option maxHeartbeats 8000000 in
set_option maxRecDepth 100000 in
theorem markMarker_w (w : World) (lo hi g3 g4 n3 n4 k : Nat) (ph at' : Int) (hg3 : lo ≤ g3 ∧ g3 < hi) (hg4 : lo ≤ g4 ∧ g4 < hi) (hhi : hi ≤ w.heap.size) (hG : WrI w g3 3 n3) (hB : WrI w g4 3 n4) (hn3 : n3 ≤ 1048576) (hn4 : n4 ≤ 1048576) (hk1 : 1 ≤ k) (hk : k ≤ 60000000) :
    Calls Tryz.prog 61 #[.agg #[.int .i64 ph, .slice (some ⟨g3, 0, none⟩) n3 n3, .slice (some ⟨g4, 0, none⟩) n4 n4, .int .i64 at'], .int .i64 (k : Int)] w fun e w' => (∃ r : Nat, e = .returned (.int .i64 (r : Int)) ∧ k ≤ r ∧ r ≤ k + 2097152) ∧ Tr lo hi w w' := by
  obtain ⟨W0, hW0⟩ : ∃ x, w.alloc (.cells #[.int .i64 ph, .slice (some ⟨g3, 0, none⟩) n3 n3, .slice (some ⟨g4, 0, none⟩) n4 n4, .int .i64 at'] 40) = x := ⟨_, rfl⟩
  have t0 : Tr lo hi w W0 := hW0 ▸ Tr.of (Kept.alloc (Below.refl _ _) _)
  have bx : Cells W0 w.heap.size 40 #[.int .i64 ph, .slice (some ⟨g3, 0, none⟩) n3 n3, .slice (some ⟨g4, 0, none⟩) n4 n4, .int .i64 at'] := hW0 ▸ Cells.new w _ _
  have hM := markIntS_w W0 lo hi g3 n3 n3 k hg3 (hG.tr t0) hn3 hk1 (by omega)
  obtain ⟨q, hq⟩ : ∃ q : Nat, n3 + k = q := ⟨_, rfl⟩
  have eq1 : (n3 : Int) + (k : Int) = (q : Int) := by omega
  rw [eq1] at hM
  have HM2 : Hid (∀ u, Tr lo hi W0 u → Calls Tryz.prog 63 #[.slice (some ⟨g4, 0, none⟩) n4 n4, .int .i64 (q : Int)] u fun e w' => e = .returned (.int .i64 ((n4 : Int) + (q : Int))) ∧ Tr lo hi u w') := fun u hu => markIntS_w u lo hi g4 n4 n4 q hg4 ((hB.tr t0).tr hu) hn4 (by omega) (by omega)
  have HT0 : Hid _ := t0
  have HB : Hid (∀ u, Tr lo hi W0 u → u.cell? ⟨w.heap.size, 2, none⟩ = some (.slice (some ⟨g4, 0, none⟩) n4 n4)) := fun u hu => (Cells.tr bx hu hhi).cell 2
  have HQ : Hid (n3 + k = q ∧ n3 ≤ 1048576 ∧ n4 ≤ 1048576) := ⟨hq, hn3, hn4⟩
  have a1 := bx.cell 1
  clear hG hB t0 bx hq eq1 hhi hg3 hg4 hk hk1
  go_enter Tryz.func61, Tryz.ntmps61
  go_upto_region 1 with (fail)
  try simp only [hW0]
  clear hW0
  go_wp2_with fail
  refine hM.mono ?_
  rintro e w1 ⟨rfl, t1⟩
  have hM2 := HM2.out _ t1
  have a2 := HB.out _ t1
  clear hM HM2 HB a1
  go_wp2_with fail
  refine hM2.mono ?_
  rintro e w2 ⟨rfl, t2⟩
  clear hM2 a2
  go_wp2_with fail
  go_ret
  exact ⟨⟨n4 + q, by first | rfl | (simp), by have := HQ.out; omega, by have := HQ.out; omega⟩, Tr.trans (Tr.trans HT0.out t1) t2⟩
set_option maxHeartbeats 8000000 in
set_option maxRecDepth 100000 in
theorem markMachine_w (w : World) (lo hi g0 g1 g2 g3 g4 g5 g6 g7 : Nat) (m : Mch) (hW : MchW w lo hi g0 g1 g2 g3 g4 g5 g6 g7 m) (hL : MchLe m) (hhi : hi ≤ w.heap.size) :
    Calls Tryz.prog 19 #[.agg (mchC (ownH m g0 g1 g2 g3 g4 g5 g6 g7) m), .int .i64 1] w fun e w' => (∃ r : Int, e = .returned (.int .i64 r) ∧ decide (r < 0) = false) ∧ Tr lo hi w w' := by
  obtain ⟨W0, hW0⟩ : ∃ x, w.alloc (.cells (mchC (ownH m g0 g1 g2 g3 g4 g5 g6 g7) m) 43) = x := ⟨_, rfl⟩
  have t0 : Tr lo hi w W0 := hW0 ▸ Tr.of (Kept.alloc (Below.refl _ _) _)
  have bx : Cells W0 w.heap.size 43 (mchC (ownH m g0 g1 g2 g3 g4 g5 g6 g7) m) := hW0 ▸ Cells.new w _ _
  have X : Hid (∀ u, Tr lo hi W0 u → Cells u w.heap.size 43 (mchC (ownH m g0 g1 g2 g3 g4 g5 g6 g7) m)) := fun u hu => Cells.tr bx hu hhi
  have HW : Hid (∀ u, Tr lo hi W0 u → MchW u lo hi g0 g1 g2 g3 g4 g5 g6 g7 m) := fun u hu => (hW.tr t0).tr hu
  have HS : Hid (hi ≤ W0.heap.size) := Nat.le_trans hhi t0.size
  have HL : Hid _ := hL
  have HT0 : Hid _ := t0
  have hsum : sumC m.cs ≤ 1048576 := by have := hL.u; unfold blkC at this; omega
  have a0 : W0.cell? ⟨w.heap.size, 0, none⟩ = some (.slice (some ⟨g0, 0, none⟩) m.cs.length m.cs.length) := bx.m0
  have a1 : W0.cell? ⟨w.heap.size, 1, none⟩ = some (.slice (some ⟨g1, 0, none⟩) m.ts.length m.ts.length) := bx.m1
  have hM := markUnit_w W0 lo hi g0 g1 m.cs m.ts 1 hW.i0 hW.i1 HS.out (hW.tr t0).c (hW.tr t0).t hL.c hsum hL.t (by omega) (by omega)
  have eo : ((1 : Nat) : Int) = 1 := rfl
  rw [eo] at hM
  clear hW hL hhi t0 bx hsum eo
  go_enter Tryz.func19, Tryz.ntmps19
  go_upto_region 1 with (fail)
  try simp only [hW0]
  clear hW0
  go_wp2_with fail
  refine hM.mono ?_
  rintro e w1 ⟨⟨r1, rfl, b1, b1'⟩, t1⟩
  clear hM a0 a1
  have a2 : w1.cell? ⟨w.heap.size, 2, none⟩ = some (.slice (some ⟨g2, 0, none⟩) m.zs.length m.zs.length) := (X.out _ t1).m2
  have hM := markSlab_w w1 lo hi g2 m.zs.length m.zs.length r1 (HW.out _ t1).i2 (HW.out _ t1).z HL.out.z (by omega) (by omega)
  go_wp2_with fail
  refine hM.mono ?_
  rintro e w2 ⟨⟨r2, rfl, b2, b2'⟩, t2'⟩
  have t2 := t1.trans t2'
  clear hM a2 t2' t1
  have a3 : w2.cell? ⟨w.heap.size, 3, none⟩ = some (.int .i64 m.ph) := (X.out _ t2).m3
  have a4 : w2.cell? ⟨w.heap.size, 4, none⟩ = some (.slice (some ⟨g3, 0, none⟩) m.gs.length m.gs.length) := (X.out _ t2).m4
  have a5 : w2.cell? ⟨w.heap.size, 5, none⟩ = some (.slice (some ⟨g4, 0, none⟩) m.bs.length m.bs.length) := (X.out _ t2).m5
  have a6 : w2.cell? ⟨w.heap.size, 6, none⟩ = some (.int .i64 m.at') := (X.out _ t2).m6
  have hM := markMarker_w w2 lo hi g3 g4 m.gs.length m.bs.length r2 m.ph m.at' (HW.out _ t2).i3 (HW.out _ t2).i4 (Nat.le_trans HS.out t2.size) (HW.out _ t2).g (HW.out _ t2).b HL.out.g HL.out.b (by omega) (by omega)
  go_wp2_with fail
  refine hM.mono ?_
  rintro e w3 ⟨⟨r3, rfl, b3, b3'⟩, t3'⟩
  have t3 := t2.trans t3'
  clear hM a3 a4 a5 a6 t3' t2
  have a7 : w3.cell? ⟨w.heap.size, 7, none⟩ = some (.slice (some ⟨g5, 0, none⟩) m.fs.length m.fs.length) := (X.out _ t3).m7
  have hM := markFrameS_w w3 lo hi g5 m.fs.length m.fs.length r3 (HW.out _ t3).i5 (HW.out _ t3).f HL.out.f (by omega) (by omega)
  obtain ⟨r4, hr4⟩ : ∃ q : Nat, m.fs.length * 3 + r3 = q := ⟨_, rfl⟩
  have e4 : ((m.fs.length * 3 : Nat) : Int) + (r3 : Int) = (r4 : Int) := by omega
  rw [e4] at hM
  have b4 : r3 ≤ r4 ∧ r4 ≤ r3 + 3145728 := by have := HL.out.f; omega
  clear e4 hr4
  go_wp2_with fail
  refine hM.mono ?_
  rintro e w4 ⟨rfl, t4'⟩
  have t4 := t3.trans t4'
  clear hM a7 t4' t3
  have a8 : w4.cell? ⟨w.heap.size, 8, none⟩ = some (.slice (some ⟨g6, 0, none⟩) m.ks.length m.ks.length) := (X.out _ t4).m8
  have hM := markIntS_w w4 lo hi g6 m.ks.length m.ks.length r4 (HW.out _ t4).i6 (HW.out _ t4).k HL.out.k (by omega) (by omega)
  obtain ⟨r5, hr5⟩ : ∃ q : Nat, m.ks.length + r4 = q := ⟨_, rfl⟩
  have e5 : (m.ks.length : Int) + (r4 : Int) = (r5 : Int) := by omega
  rw [e5] at hM
  have b5 : r4 ≤ r5 ∧ r5 ≤ r4 + 1048576 := by have := HL.out.k; omega
  clear e5 hr5
  go_wp2_with fail
  refine hM.mono ?_
  rintro e w5 ⟨rfl, t5'⟩
  have t5 := t4.trans t5'
  clear hM a8 t5' t4
  have a9 : w5.cell? ⟨w.heap.size, 9, none⟩ = some (.slice (some ⟨g7, 0, none⟩) m.ls.length m.ls.length) := (X.out _ t5).m9
  have hM := markStringS_w w5 lo hi g7 m.ls.length m.ls.length r5 (HW.out _ t5).i7 (HW.out _ t5).l HL.out.l' (by omega) (by omega)
  go_wp2_with fail
  refine hM.mono ?_
  rintro e w6 ⟨rfl, t6'⟩
  have t6 := t5.trans t6'
  clear hM a9 t6' t5
  go_wp2_with fail
  go_ret
  exact ⟨⟨_, rfl, decide_eq_false (by omega)⟩, Tr.trans HT0.out t6⟩
end Go.Proofs.YtgempjjnfpmndaaGreatDoor
