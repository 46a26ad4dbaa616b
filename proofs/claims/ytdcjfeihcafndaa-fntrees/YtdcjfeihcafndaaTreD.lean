/-
  The contracts of spec.DrawSize and spec.DrawDeep: a tree of at most 210 nodes, in blocks of its own.
-/
import Derived.Test.YtdcjfeihcafndaaTreC
namespace Go.Proofs.Ytdcjfeihcafndaa
open Go.RowKit
set_option linter.unusedSimpArgs false

set_option maxHeartbeats 8000000 in
set_option maxRecDepth 100000 in
theorem DrawSize_ok (a : Option Addr) (len cap : Nat) (z : Nat → Int) (w : World) (h : Src w.heap.size w a len z) :
    Calls Try.prog 5 #[.slice a len cap] w fun e w' => ∃ t v, e = .returned v ∧ NdV w' 1 t v ∧ t.size ≤ 210 ∧ Kept w w' := by
  have k0 : Kept w (w.alloc (.cells zeroN 26)) := Kept.alloc (Below.refl _ _) _
  have r0 := Cells.new w 26 zeroN
  have hNew := l1New_ok a len cap z _ (h.below k0)
  go_enter Try.func5, Try.ntmps5
  go_wp2_with fail
  refine hNew.mono ?_
  rintro e w1 ⟨c, rfl, hc, hk1, hC1⟩
  have r1 := r0.kept hk1
  have k1 := k0.trans hk1
  have hs1 := hk1.size
  simp only [World.size_alloc] at hc hs1
  clear hNew r0 k0 hk1 h
  go_wp2_with fail
  refine (l12DrawBad_ok c a len cap z w1 hC1).mono ?_
  rintro e w2 ⟨t, v, rfl, ht, hz, hk2, hC2⟩
  have r2 := r1.keeps hk2 (by omega)
  obtain ⟨op, s, n, ao, l, cp, rfl⟩ := ht.four
  have K2 : Kept w w2 := Below.trans k1 (hk2.below (by omega) k1.size)
  have HT : Hid _ := ht
  have d0 := r2.cell 0; have d1 := r2.cell 1; have d2 := r2.cell 2; have d3 := r2.cell 3; have g0 := r2.frozen 0; have g1 := r2.frozen 1; have g2 := r2.frozen 2; have g3 := r2.frozen 3
  simp [zeroN] at d0 d1 d2 d3
  clear ht hk2 hC1 hC2 r1
  go_wp2_with fail
  have r4 := r2.put4 (.int .i64 op) (.string s) (.int .i64 n) (.slice ao l cp)
  have z0 := r4.cell 0; have z1 := r4.cell 1; have z2 := r4.cell 2; have z3 := r4.cell 3
  have hst : Stays (fun b => w1.heap.size ≤ b) w2 (set4 w2 w.heap.size (.int .i64 op) (.string s) (.int .i64 n) (.slice ao l cp)) := (Stays.refl _ w2).set4 (by omega) _ _ _ _
  exact bodyPost_ret (v := .agg #[.int .i64 op, .string s, .int .i64 n, .slice ao l cp]) (by simp [results, Try.results5, go_sem, z0, z1, z2, z3]) rfl ⟨t, _, rfl, NdS.toV (fun b hb => by omega) _ _ (NdS.stay hst _ _ HT.out), hz, (((K2.set (by simp) _).set (by simp) _).set (by simp) _).set (by simp) _⟩
set_option maxHeartbeats 8000000 in
set_option maxRecDepth 100000 in
theorem DrawDeep_ok (a : Option Addr) (len cap : Nat) (z : Nat → Int) (w : World) (h : Src w.heap.size w a len z) :
    Calls Try.prog 8 #[.slice a len cap] w fun e w' => ∃ t v, e = .returned v ∧ NdV w' 1 t v ∧ t.size ≤ 210 ∧ Kept w w' := by
  have k0 : Kept w (w.alloc (.cells zeroN 26)) := Kept.alloc (Below.refl _ _) _
  have r0 := Cells.new w 26 zeroN
  have hNew := l1New_ok a len cap z _ (h.below k0)
  go_enter Try.func8, Try.ntmps8
  go_wp2_with fail
  refine hNew.mono ?_
  rintro e w1 ⟨c, rfl, hc, hk1, hC1⟩
  have r1 := r0.kept hk1
  have k1 := k0.trans hk1
  have hs1 := hk1.size
  simp only [World.size_alloc] at hc hs1
  clear hNew r0 k0 hk1 h
  go_wp2_with fail
  refine (l12DrawBad_ok c a len cap z w1 hC1).mono ?_
  rintro e w2 ⟨t, v, rfl, ht, hz, hk2, hC2⟩
  have r2 := r1.keeps hk2 (by omega)
  obtain ⟨op, s, n, ao, l, cp, rfl⟩ := ht.four
  have K2 : Kept w w2 := Below.trans k1 (hk2.below (by omega) k1.size)
  have HT : Hid _ := ht
  have d0 := r2.cell 0; have d1 := r2.cell 1; have d2 := r2.cell 2; have d3 := r2.cell 3; have g0 := r2.frozen 0; have g1 := r2.frozen 1; have g2 := r2.frozen 2; have g3 := r2.frozen 3
  simp [zeroN] at d0 d1 d2 d3
  clear ht hk2 hC1 hC2 r1
  go_wp2_with fail
  have r4 := r2.put4 (.int .i64 op) (.string s) (.int .i64 n) (.slice ao l cp)
  have z0 := r4.cell 0; have z1 := r4.cell 1; have z2 := r4.cell 2; have z3 := r4.cell 3
  have hst : Stays (fun b => w1.heap.size ≤ b) w2 (set4 w2 w.heap.size (.int .i64 op) (.string s) (.int .i64 n) (.slice ao l cp)) := (Stays.refl _ w2).set4 (by omega) _ _ _ _
  exact bodyPost_ret (v := .agg #[.int .i64 op, .string s, .int .i64 n, .slice ao l cp]) (by simp [results, Try.results8, go_sem, z0, z1, z2, z3]) rfl ⟨t, _, rfl, NdS.toV (fun b hb => by omega) _ _ (NdS.stay hst _ _ HT.out), hz, (((K2.set (by simp) _).set (by simp) _).set (by simp) _).set (by simp) _⟩
end Go.Proofs.Ytdcjfeihcafndaa
