/-
  What the laws do with machines: copies of a unit and of frames, told as one's own (chapter 17).
  What the laws do with machines: a copy (chapter 17).
  How an argument of the type Machine is read (chapter 17).
-/
import Derived.ChangeArms
import Derived.Test.YtgempjjnfpmndaaGreatDoorGrpMp
import Derived.Test.YtgempjjnfpmndaaGreatDoorGrpUb
import Derived.Test.YtgempjjnfpmndaaGreatDoorHelpQ
import Derived.Test.YtgempjjnfpmndaaGreatDoorFrameP
namespace Go.Proofs.YtgempjjnfpmndaaGreatDoor
open Go.ChangeShapes Go.WideShapes Go.ChangeAt Go.RowKit
set_option linter.unusedSimpArgs false
set_option linter.unusedVariables false
set_option maxHeartbeats 8000000 in
set_option maxRecDepth 100000 in
theorem toUnit_own (w : World) (ca ta : Option Addr) (cc tc : Nat) (cs : List Cod) (ts : List ByteArray) (hA : CodsA w ca cs) (hB : StA w ta ts) (hl : cs.length ≤ 1048576) (hI : ∀ c ∈ cs, c.ss.length ≤ 1048576) (ht : ts.length ≤ 1048576) :
    Calls Tryz.prog 15 #[.agg #[.slice ca cs.length cc, .slice ta ts.length tc]] w fun e w' => ∃ g h, e = .returned (.agg #[.slice (some ⟨g, 0, none⟩) cs.length cs.length, .slice (some ⟨h, 0, none⟩) ts.length ts.length]) ∧ (w.heap.size ≤ g ∧ w.heap.size ≤ h) ∧ CodsO w' g cs ∧ StA w' (some ⟨h, 0, none⟩) ts ∧ Kept w w' := by
  have k3 : Kept w (((w.alloc (.cells #[.slice ca cs.length cc, .slice ta ts.length tc] 25)).alloc (.cells #[.slice none 0 0, .slice none 0 0] 38)).alloc (.cells #[.slice none 0 0, .slice none 0 0] 38)) := ((Kept.alloc (Below.refl _ _) _).alloc _).alloc _
  have y0 := ((Cells.new w 25 #[.slice ca cs.length cc, .slice ta ts.length tc]).alloc (.cells #[.slice none 0 0, .slice none 0 0] 38)).alloc (.cells #[.slice none 0 0, .slice none 0 0] 38)
  have y1 := (Cells.new (w.alloc (.cells #[.slice ca cs.length cc, .slice ta ts.length tc] 25)) 38 #[.slice none 0 0, .slice none 0 0]).alloc (.cells #[.slice none 0 0, .slice none 0 0] 38)
  have y2 := Cells.new ((w.alloc (.cells #[.slice ca cs.length cc, .slice ta ts.length tc] 25)).alloc (.cells #[.slice none 0 0, .slice none 0 0] 38)) 38 #[.slice none 0 0, .slice none 0 0]
  have hs3 : (((w.alloc (.cells #[.slice ca cs.length cc, .slice ta ts.length tc] 25)).alloc (.cells #[.slice none 0 0, .slice none 0 0] 38)).alloc (.cells #[.slice none 0 0, .slice none 0 0] 38)).heap.size = w.heap.size + 3 := by simp
  simp only [World.size_alloc] at y0 y1 y2
  have hC := toCodeS_ok _ ca cc cs (hA.kept k3) hl hI
  rw [hs3] at hC
  have HB : Hid (StA w ta ts) := hB
  have HT : Hid (ts.length ≤ 1048576) := ht
  have HK3 : Hid _ := k3
  clear hA hl hI hB ht
  go_enter Tryz.func15, Tryz.ntmps15
  go_wp2_with fail
  refine hC.mono ?_
  rintro e w1 ⟨rfl, hN, hk1⟩
  have x0 := y0.kept hk1
  have x1 := y1.kept hk1
  have x2 := y2.kept hk1
  have c0 := x2.cell 0; have f0 := x2.frozen 0; have l2 := x2.lt
  have hsz1 : w.heap.size + 3 ≤ w1.heap.size := by have := hk1.size; rw [hs3] at this; exact this
  have v0 := x0.other (p := ⟨w.heap.size + 1 + 1, 0, none⟩) (by simp; omega) (.slice (some ⟨w.heap.size + 3, 0, none⟩) cs.length cs.length)
  have v1 := x1.other (p := ⟨w.heap.size + 1 + 1, 0, none⟩) (by simp) (.slice (some ⟨w.heap.size + 3, 0, none⟩) cs.length cs.length)
  have v2 := x2.set 0 (.slice (some ⟨w.heap.size + 3, 0, none⟩) cs.length cs.length)
  have hN1 := hN.other (i := w.heap.size + 1 + 1) (k := 0) (v := .slice (some ⟨w.heap.size + 3, 0, none⟩) cs.length cs.length) (by omega)
  have kW : Kept w (w1.setCell ⟨w.heap.size + 1 + 1, 0, none⟩ (.slice (some ⟨w.heap.size + 3, 0, none⟩) cs.length cs.length)) := (Kept.trans HK3.out hk1).set (by simp; omega) _
  have hszW : (w1.setCell ⟨w.heap.size + 1 + 1, 0, none⟩ (.slice (some ⟨w.heap.size + 3, 0, none⟩) cs.length cs.length)).heap.size = w1.heap.size := by simp
  have HsW : Hid (w.heap.size + 3 ≤ w1.heap.size) := hsz1
  have a0 := v0.cell 0; have a1 := v0.cell 1
  have HN1 : Hid _ := hN1
  have hD := toStringS_ok (w1.setCell ⟨w.heap.size + 1 + 1, 0, none⟩ (.slice (some ⟨w.heap.size + 3, 0, none⟩) cs.length cs.length)) ta tc ts (StA.kept HB.out kW) HT.out
  rw [hszW] at hD
  clear hC y0 y1 y2 hN x0 x1 hszW hN1 hsz1
  go_wp2_with (go_at_call 34; refine hD.mono ?_; rintro e w2 ⟨rfl, hS, hk2⟩; have m2 := v2.kept hk2; have m1 := v1.kept hk2; have e0 := m2.cell 0; have e1 := m2.cell 1; have r0 := m2.frozen 0; have r1 := m2.frozen 1; have e2 := m1.cell 0; have e3 := m1.cell 1; have r2 := m1.frozen 0; have r3 := m1.frozen 1)
  have z := (((m1.other (p := ⟨w.heap.size + 1 + 1, 1, none⟩) (by simp) (.slice (some ⟨w1.heap.size, 0, none⟩) ts.length ts.length)).set 0 (.slice (some ⟨w.heap.size + 3, 0, none⟩) cs.length cs.length))).set 1 (.slice (some ⟨w1.heap.size, 0, none⟩) ts.length ts.length)
  have z0 := z.cell 0
  have z1 := z.cell 1
  have hQ := CodsO.kept HN1.out hk2
  have hs1 := HsW.out
  have hR := ((hQ.other (i := w.heap.size + 1 + 1) (k := 1) (v := .slice (some ⟨w1.heap.size, 0, none⟩) ts.length ts.length) (by omega)).other (i := w.heap.size + 1) (k := 0) (v := .slice (some ⟨w.heap.size + 3, 0, none⟩) cs.length cs.length) (by omega)).other (i := w.heap.size + 1) (k := 1) (v := .slice (some ⟨w1.heap.size, 0, none⟩) ts.length ts.length) (by omega)
  refine bodyPost_ret (v := .agg #[.slice (some ⟨w.heap.size + 3, 0, none⟩) cs.length cs.length, .slice (some ⟨w1.heap.size, 0, none⟩) ts.length ts.length]) (by simp [results, Tryz.results15, go_sem, z0, z1]) rfl ⟨_, _, rfl, ⟨by omega, by omega⟩, hR, StA.other (StA.other (StA.other hS (by omega)) (by omega)) (by omega), (((Kept.trans kW hk2).set (by simp; omega) _).set (by simp) _).set (by simp) _⟩
set_option maxHeartbeats 8000000 in
set_option maxRecDepth 100000 in
theorem toFrame_ok (w : World) (o a b : Int) :
    Calls Tryz.prog 78 #[.agg #[.int .i64 o, .int .i64 a, .int .i64 b]] w fun e w' => e = .returned (.agg #[.int .i64 o, .int .i64 a, .int .i64 b]) ∧ Kept w w' := by
  go_enter Tryz.func78, Tryz.ntmps78
  go_wp2_with fail
  refine bodyPost_ret (v := .agg #[.int .i64 o, .int .i64 a, .int .i64 b]) (by simp [results, Tryz.results78, go_sem]) rfl ⟨rfl, ?_⟩
  exact ((Kept.alloc (Below.refl _ _) _).alloc _).alloc _
theorem infoFrm : (Tryz.prog.info? 94).map (fun i => (i.zero, i.size, i.bytes)) = some (some (.agg #[.int .i64 0, .int .i64 0, .int .i64 0]), 3, 24) := by kernel_rfl
/-- The cells of a row whose first k steps are told. -/
def RowF (W : World) (g : Nat) (ss : List Stp) (k : Nat) : Prop := ∃ cs, Cells W g 94 cs ∧ cs.size = ss.length * 3 ∧ ∀ (j : Nat) (s : Stp), j < k → ss[j]? = some s → cs[j * 3]? = some (.int .i64 s.1) ∧ cs[j * 3 + 1]? = some (.int .i64 s.2.1) ∧ cs[j * 3 + 2]? = some (.int .i64 s.2.2)
theorem RowF.on {W W' : World} {g : Nat} {ss : List Stp} {k : Nat} (h : RowF W g ss k) (hk : Kept W W') : RowF W' g ss k := by
  obtain ⟨cs, h1, h2, h3⟩ := h
  exact ⟨cs, h1.kept hk, h2, h3⟩
theorem RowF.next {W : World} {g : Nat} {ss : List Stp} {k : Nat} {x : Stp} (h : RowF W g ss k) (hx : ss[k]? = some x) :
    RowF (((W.setCell ⟨g, k * 3, none⟩ (.int .i64 x.1)).setCell ⟨g, k * 3 + 1, none⟩ (.int .i64 x.2.1)).setCell ⟨g, k * 3 + 2, none⟩ (.int .i64 x.2.2)) g ss (k + 1) := by
  obtain ⟨cs, h1, h2, h3⟩ := h
  have hlt : k < ss.length := (List.getElem?_eq_some_iff.1 hx).1
  have hz : k * 3 + 3 ≤ cs.size := by omega
  refine ⟨_, ((h1.set (k * 3) _).set (k * 3 + 1) _).set (k * 3 + 2) _, by simp [h2], fun j s hj hs => ?_⟩
  by_cases hjk : j = k
  · subst hjk
    rw [hx] at hs
    injection hs with hs
    subst hs
    exact set3_at hz
  · obtain ⟨e0, e1, e2⟩ := h3 j s (by omega) hs
    have f0 := set3_get (n := 0) (a := .int .i64 x.1) (b := .int .i64 x.2.1) (c := .int .i64 x.2.2) hz hjk 0 (by omega)
    have f1 := set3_get (n := 0) (a := .int .i64 x.1) (b := .int .i64 x.2.1) (c := .int .i64 x.2.2) hz hjk 1 (by omega)
    have f2 := set3_get (n := 0) (a := .int .i64 x.1) (b := .int .i64 x.2.1) (c := .int .i64 x.2.2) hz hjk 2 (by omega)
    exact ⟨f0.trans e0, f1.trans e1, f2.trans e2⟩
theorem RowF.done {W : World} {g : Nat} {ss : List Stp} (h : RowF W g ss ss.length) : StpsA W (some ⟨g, 0, none⟩) ss := by
  obtain ⟨cs, h1, h2, h3⟩ := h
  intro j s hs
  obtain ⟨e0, e1, e2⟩ := h3 j s (List.getElem?_eq_some_iff.1 hs).1 hs
  refine ⟨g, 0, rfl, ?_, ?_, ?_⟩
  · rw [Nat.zero_add, h1.cell]; exact e0
  · rw [Nat.zero_add, h1.cell]; exact e1
  · rw [Nat.zero_add, h1.cell]; exact e2
set_option maxHeartbeats 8000000 in
set_option maxRecDepth 100000 in
theorem toFrameS_ok (w : World) (ao : Option Addr) (cap : Nat) (ss : List Stp) (hA : StpsA w ao ss) (hl : ss.length ≤ 1048576) :
    Calls Tryz.prog 32 #[.slice ao ss.length cap] w fun e w' => e = .returned (.slice (some ⟨w.heap.size, 0, none⟩) ss.length ss.length) ∧ StpsA w' (some ⟨w.heap.size, 0, none⟩) ss ∧ Kept w w' := by
  obtain ⟨i0, hi, hz0, hz1, hz2⟩ := info_parts infoFrm
  have HA : Hid _ := hA
  clear hA
  go_enter Tryz.func32, Tryz.ntmps32
  go_wp2_with (at_make; refine wpList_make_full _ rfl _ _ 41 rfl w.heap.size 94 i0 (.agg #[.int .i64 0, .int .i64 0, .int .i64 0]) 3 Tryz.underlying41 hi hz0 hz1 .i64 .i64 _ _ ss.length rfl rfl rfl rfl (by rw [hz2]; omega) (by unfold maxLen; omega) (Nat.le_refl _) ?_; intro w1 hown hgrow)
  have hR : RowF w1 w.heap.size ss 0 := by
    obtain ⟨_, ⟨e, _⟩ | ⟨g', cap', cur, e, hb, hg, h1, h2, h3, h4⟩⟩ := hown
    · cases e
    · simp at e
      obtain ⟨rfl, rfl⟩ := e
      exact ⟨cur, hg, h3, fun j t hj => by omega⟩
  have hK : Kept w w1 := (Below.refl _ w).grown hgrow (Nat.le_refl _) (by simp)
  have HR0 : Hid _ := hR
  have HK0 : Hid (Kept w w1) := hK
  clear hown hgrow hR hK
  go_loopw [4] (fun iv wr => ∃ (k : Nat), iv = .int .i64 k ∧ k ≤ ss.length ∧ Hid (RowF wr w.heap.size ss k) ∧ Hid (Kept w wr)) (fun i _ => ss.length - (intOf i).toNat)
  case atStart => exact ⟨0, rfl, Nat.zero_le _, HR0.out, HK0.out⟩
  case round =>
    obtain ⟨k, rfl, hk, hR, hK⟩ := hrel
    clear HR0 HK0
    by_cases hlt : k < ss.length
    · obtain ⟨x, hx⟩ : ∃ x, ss[k]? = some x := ⟨ss[k], List.getElem?_eq_getElem hlt⟩
      have q1 : (k : Int) < (ss.length : Int) := by omega
      obtain ⟨b, off, rfl, g0, g1, g2⟩ := (StpsA.kept HA.out hK.out) k x hx
      have HX : Hid (ss[k]? = some x) := hx
      obtain ⟨o, a, c⟩ := x
      have hC := toFrame_ok wr o a c
      clear hx
      go_wp2_with (go_at_call 78; refine hC.mono ?_; rintro e wx ⟨rfl, hkx⟩; obtain ⟨cs, hcs, hcz, _⟩ := id (RowF.on hR.out hkx); have z0 := hcs.at3 (i := k * 3) (by omega); have z1 := hcs.at3 (i := k * 3 + 1) (by omega); have z2 := hcs.at3 (i := k * 3 + 2) (by omega); have y0 := hcs.frozen (k * 3); have y1 := hcs.frozen (k * 3 + 1); have y2 := hcs.frozen (k * 3 + 2))
      have hN := RowF.next (RowF.on hR.out hkx) HX.out
      go_roundw
      case rel => exact ⟨k + 1, by go_num, by omega, hN, (hK.out.trans hkx).set3 (by simp) _ _ _⟩
      case measure => simp [intOf]; omega
    · have q1 : ¬ (k : Int) < (ss.length : Int) := by omega
      have HR : Hid (StpsA wr (some ⟨w.heap.size, 0, none⟩) ss) := RowF.done (by have := hR.out; rwa [show k = ss.length by omega] at this)
      go_wp2_with fail
      go_ret
      exact ⟨rfl, HR.out, hK.out⟩
end Go.Proofs.YtgempjjnfpmndaaGreatDoor
namespace Go.Proofs.YtgempjjnfpmndaaGreatDoor
open Go.ChangeShapes Go.WideShapes Go.ChangeAt Go.RowKit
set_option linter.unusedSimpArgs false
set_option linter.unusedVariables false
/-- Rows of one's own. -/
def ownH (m : Mch) (g0 g1 g2 g3 g4 g5 g6 g7 : Nat) : MchH := ⟨some ⟨g0, 0, none⟩, m.cs.length, some ⟨g1, 0, none⟩, m.ts.length, some ⟨g2, 0, none⟩, m.zs.length, some ⟨g3, 0, none⟩, m.gs.length, some ⟨g4, 0, none⟩, m.bs.length, some ⟨g5, 0, none⟩, m.fs.length, some ⟨g6, 0, none⟩, m.ks.length, some ⟨g7, 0, none⟩, m.ls.length⟩
/-- A machine whose rows lie at B or above. -/
structure MchO (W : World) (B g0 g1 g2 g3 g4 g5 g6 g7 : Nat) (m : Mch) : Prop where
  l0 : B ≤ g0
  l1 : B ≤ g1
  l2 : B ≤ g2
  l3 : B ≤ g3
  l4 : B ≤ g4
  l5 : B ≤ g5
  l6 : B ≤ g6
  l7 : B ≤ g7
  c : CodsO W g0 m.cs
  t : StA W (some ⟨g1, 0, none⟩) m.ts
  z : Row W g2 m.zs
  g : Row W g3 m.gs
  b : Row W g4 m.bs
  f : StpsA W (some ⟨g5, 0, none⟩) m.fs
  k : Row W g6 m.ks
  l : StA W (some ⟨g7, 0, none⟩) m.ls
theorem MchO.all {W : World} {B g0 g1 g2 g3 g4 g5 g6 g7 : Nat} {m : Mch} (h : MchO W B g0 g1 g2 g3 g4 g5 g6 g7 m) : MchA W (ownH m g0 g1 g2 g3 g4 g5 g6 g7) m :=
  ⟨h.c.all, h.t, h.z.ints, h.g.ints, h.b.ints, h.f, h.k.ints, h.l⟩
set_option maxHeartbeats 16000000 in
set_option maxRecDepth 100000 in
theorem toMachine_ok (w : World) (h : MchH) (m : Mch) (hA : MchA w h m) (hL : MchLe m) :
    Calls Tryz.prog 8 #[.agg (mchC h m)] w fun e w' => ∃ g0 g1 g2 g3 g4 g5 g6 g7, e = .returned (.agg (mchC (ownH m g0 g1 g2 g3 g4 g5 g6 g7) m)) ∧ MchO w' w.heap.size g0 g1 g2 g3 g4 g5 g6 g7 m ∧ Kept w w' := by
  obtain ⟨W0, hW0⟩ : ∃ W0, ((w.alloc (.cells (mchC h m) 33)).alloc (.cells #[.slice none 0 0, .slice none 0 0, .slice none 0 0, .int .i64 0, .slice none 0 0, .slice none 0 0, .int .i64 0, .slice none 0 0, .slice none 0 0, .slice none 0 0, .bool false, .int .i64 0] 43)).alloc (.cells #[.slice none 0 0, .slice none 0 0, .slice none 0 0, .int .i64 0, .slice none 0 0, .slice none 0 0, .int .i64 0, .slice none 0 0, .slice none 0 0, .slice none 0 0, .bool false, .int .i64 0] 43) = W0 := ⟨_, rfl⟩
  have X0 : Hid (Cells W0 w.heap.size 33 (mchC h m)) := hW0 ▸ ((Cells.new w 33 (mchC h m)).alloc _).alloc _
  have X1 : Hid (Cells W0 (w.heap.size + 1) 43 #[.slice none 0 0, .slice none 0 0, .slice none 0 0, .int .i64 0, .slice none 0 0, .slice none 0 0, .int .i64 0, .slice none 0 0, .slice none 0 0, .slice none 0 0, .bool false, .int .i64 0]) := by
    have y := (Cells.new (w.alloc (.cells (mchC h m) 33)) 43 #[.slice none 0 0, .slice none 0 0, .slice none 0 0, .int .i64 0, .slice none 0 0, .slice none 0 0, .int .i64 0, .slice none 0 0, .slice none 0 0, .slice none 0 0, .bool false, .int .i64 0]).alloc (.cells #[.slice none 0 0, .slice none 0 0, .slice none 0 0, .int .i64 0, .slice none 0 0, .slice none 0 0, .int .i64 0, .slice none 0 0, .slice none 0 0, .slice none 0 0, .bool false, .int .i64 0] 43)
    rw [hW0] at y
    simp only [World.size_alloc] at y
    exact y
  have X2 : Hid (Cells W0 (w.heap.size + 2) 43 #[.slice none 0 0, .slice none 0 0, .slice none 0 0, .int .i64 0, .slice none 0 0, .slice none 0 0, .int .i64 0, .slice none 0 0, .slice none 0 0, .slice none 0 0, .bool false, .int .i64 0]) := by
    have y := Cells.new ((w.alloc (.cells (mchC h m) 33)).alloc (.cells #[.slice none 0 0, .slice none 0 0, .slice none 0 0, .int .i64 0, .slice none 0 0, .slice none 0 0, .int .i64 0, .slice none 0 0, .slice none 0 0, .slice none 0 0, .bool false, .int .i64 0] 43)) 43 #[.slice none 0 0, .slice none 0 0, .slice none 0 0, .int .i64 0, .slice none 0 0, .slice none 0 0, .int .i64 0, .slice none 0 0, .slice none 0 0, .slice none 0 0, .bool false, .int .i64 0]
    rw [hW0] at y
    simp only [World.size_alloc] at y
    exact y
  have HK : Hid (Kept w W0) := hW0 ▸ ((Kept.alloc (Below.refl _ _) _).alloc _).alloc _
  have HS : Hid (w.heap.size + 3 ≤ W0.heap.size) := by rw [Hid, ← hW0]; simp
  have HA : Hid _ := hA
  have HL : Hid _ := hL
  clear hA hL
  go_enter Tryz.func8, Tryz.ntmps8
  go_upto_region 2 with (fail)
  try simp only [hW0]
  clear hW0
  have a0 := (Cells.m0 X0.out)
  have a1 := (Cells.m1 X0.out)
  have hC := toUnit_own W0 h.ca h.ta h.cc h.tc m.cs m.ts (MchA.kept HA.out HK.out).c (MchA.kept HA.out HK.out).t HL.out.c HL.out.i HL.out.t
  go_wp2_with fail
  refine hC.mono ?_
  rintro e u ⟨g0, g1, rfl, ⟨l0, l1⟩, R_c, R_t, hk⟩
  clear hC a0 a1
  have hs := HS.out
  replace l0 : w.heap.size + 3 ≤ g0 := by omega
  replace l1 : w.heap.size + 3 ≤ g1 := by omega
  obtain ⟨W1, hW⟩ : ∃ x, ((u).setCell ⟨w.heap.size + 2, 0, none⟩ (.slice (some ⟨g0, 0, none⟩) m.cs.length m.cs.length)).setCell ⟨w.heap.size + 2, 1, none⟩ (.slice (some ⟨g1, 0, none⟩) m.ts.length m.ts.length) = x := ⟨_, rfl⟩
  have y2 := Cells.kept X2.out hk
  have n0 : (u).cell? ⟨w.heap.size + 2, 0, none⟩ = some (.slice none 0 0) := Cells.cell y2 0
  have z0 : (u).frozen? ⟨w.heap.size + 2, 0, none⟩ = false := Cells.frozen y2 0
  have y2_0 := Cells.set 0 (.slice (some ⟨g0, 0, none⟩) m.cs.length m.cs.length) y2
  replace y2_0 : Cells ((u).setCell ⟨w.heap.size + 2, 0, none⟩ (.slice (some ⟨g0, 0, none⟩) m.cs.length m.cs.length)) (w.heap.size + 2) 43 #[.slice (some ⟨g0, 0, none⟩) m.cs.length m.cs.length, .slice none 0 0, .slice none 0 0, .int .i64 0, .slice none 0 0, .slice none 0 0, .int .i64 0, .slice none 0 0, .slice none 0 0, .slice none 0 0, .bool false, .int .i64 0] := y2_0
  have n1 : ((u).setCell ⟨w.heap.size + 2, 0, none⟩ (.slice (some ⟨g0, 0, none⟩) m.cs.length m.cs.length)).cell? ⟨w.heap.size + 2, 1, none⟩ = some (.slice none 0 0) := Cells.cell y2_0 1
  have z1 : ((u).setCell ⟨w.heap.size + 2, 0, none⟩ (.slice (some ⟨g0, 0, none⟩) m.cs.length m.cs.length)).frozen? ⟨w.heap.size + 2, 1, none⟩ = false := Cells.frozen y2_0 1
  have y2_1 := Cells.set 1 (.slice (some ⟨g1, 0, none⟩) m.ts.length m.ts.length) y2_0
  replace y2_1 : Cells (((u).setCell ⟨w.heap.size + 2, 0, none⟩ (.slice (some ⟨g0, 0, none⟩) m.cs.length m.cs.length)).setCell ⟨w.heap.size + 2, 1, none⟩ (.slice (some ⟨g1, 0, none⟩) m.ts.length m.ts.length)) (w.heap.size + 2) 43 #[.slice (some ⟨g0, 0, none⟩) m.cs.length m.cs.length, .slice (some ⟨g1, 0, none⟩) m.ts.length m.ts.length, .slice none 0 0, .int .i64 0, .slice none 0 0, .slice none 0 0, .int .i64 0, .slice none 0 0, .slice none 0 0, .slice none 0 0, .bool false, .int .i64 0] := y2_1
  replace X2 : Hid (Cells W1 (w.heap.size + 2) 43 #[.slice (some ⟨g0, 0, none⟩) m.cs.length m.cs.length, .slice (some ⟨g1, 0, none⟩) m.ts.length m.ts.length, .slice none 0 0, .int .i64 0, .slice none 0 0, .slice none 0 0, .int .i64 0, .slice none 0 0, .slice none 0 0, .slice none 0 0, .bool false, .int .i64 0]) := hW ▸ y2_1
  replace X0 : Hid (Cells W1 w.heap.size 33 (mchC h m)) := hW ▸ (Cells.other ((Cells.other (Cells.kept X0.out hk) (p := ⟨w.heap.size + 2, 0, none⟩) (by simp) _)) (p := ⟨w.heap.size + 2, 1, none⟩) (by simp) _)
  replace X1 : Hid (Cells W1 (w.heap.size + 1) 43 #[.slice none 0 0, .slice none 0 0, .slice none 0 0, .int .i64 0, .slice none 0 0, .slice none 0 0, .int .i64 0, .slice none 0 0, .slice none 0 0, .slice none 0 0, .bool false, .int .i64 0]) := hW ▸ (Cells.other ((Cells.other (Cells.kept X1.out hk) (p := ⟨w.heap.size + 2, 0, none⟩) (by simp) _)) (p := ⟨w.heap.size + 2, 1, none⟩) (by simp) _)
  have Q_c : Hid (CodsO W1 g0 m.cs) := hW ▸ (CodsO.other ((CodsO.other (R_c) (by omega))) (by omega))
  clear R_c
  have Q_t : Hid (StA W1 (some ⟨g1, 0, none⟩) m.ts) := hW ▸ ((((R_t).other (by omega))).other (by omega))
  clear R_t
  replace HK : Hid (Kept w W1) := hW ▸ (Kept.set ((Kept.set (Kept.trans HK.out hk) (by simp) _)) (by simp) _)
  replace HS : Hid (w.heap.size + 3 ≤ W1.heap.size) := by have := hk.size; rw [Hid, ← hW]; simp only [World.size_setCell]; omega
  clear y2 hs hk y2_0 y2_1
  go_upto_region 3 with (fail)
  try simp only [hW]
  clear hW n0 z0 n1 z1
  have a2 := (Cells.m2 X0.out)
  have hC := toSlab_ok W1 h.sa h.sc m.zs (MchA.kept HA.out HK.out).z HL.out.z
  go_wp2_with fail
  refine hC.mono ?_
  rintro e u ⟨g2, rfl, l2, R_z, hk⟩
  clear hC a2
  have hs := HS.out
  replace l2 : w.heap.size + 3 ≤ g2 := by omega
  obtain ⟨W2, hW⟩ : ∃ x, (u).setCell ⟨w.heap.size + 2, 2, none⟩ (.slice (some ⟨g2, 0, none⟩) m.zs.length m.zs.length) = x := ⟨_, rfl⟩
  have y2 := Cells.kept X2.out hk
  have n2 : (u).cell? ⟨w.heap.size + 2, 2, none⟩ = some (.slice none 0 0) := Cells.cell y2 2
  have z2 : (u).frozen? ⟨w.heap.size + 2, 2, none⟩ = false := Cells.frozen y2 2
  have y2_2 := Cells.set 2 (.slice (some ⟨g2, 0, none⟩) m.zs.length m.zs.length) y2
  replace y2_2 : Cells ((u).setCell ⟨w.heap.size + 2, 2, none⟩ (.slice (some ⟨g2, 0, none⟩) m.zs.length m.zs.length)) (w.heap.size + 2) 43 #[.slice (some ⟨g0, 0, none⟩) m.cs.length m.cs.length, .slice (some ⟨g1, 0, none⟩) m.ts.length m.ts.length, .slice (some ⟨g2, 0, none⟩) m.zs.length m.zs.length, .int .i64 0, .slice none 0 0, .slice none 0 0, .int .i64 0, .slice none 0 0, .slice none 0 0, .slice none 0 0, .bool false, .int .i64 0] := y2_2
  replace X2 : Hid (Cells W2 (w.heap.size + 2) 43 #[.slice (some ⟨g0, 0, none⟩) m.cs.length m.cs.length, .slice (some ⟨g1, 0, none⟩) m.ts.length m.ts.length, .slice (some ⟨g2, 0, none⟩) m.zs.length m.zs.length, .int .i64 0, .slice none 0 0, .slice none 0 0, .int .i64 0, .slice none 0 0, .slice none 0 0, .slice none 0 0, .bool false, .int .i64 0]) := hW ▸ y2_2
  replace X0 : Hid (Cells W2 w.heap.size 33 (mchC h m)) := hW ▸ (Cells.other (Cells.kept X0.out hk) (p := ⟨w.heap.size + 2, 2, none⟩) (by simp) _)
  replace X1 : Hid (Cells W2 (w.heap.size + 1) 43 #[.slice none 0 0, .slice none 0 0, .slice none 0 0, .int .i64 0, .slice none 0 0, .slice none 0 0, .int .i64 0, .slice none 0 0, .slice none 0 0, .slice none 0 0, .bool false, .int .i64 0]) := hW ▸ (Cells.other (Cells.kept X1.out hk) (p := ⟨w.heap.size + 2, 2, none⟩) (by simp) _)
  replace Q_c : Hid (CodsO W2 g0 m.cs) := hW ▸ (CodsO.other (CodsO.kept Q_c.out hk) (by omega))
  replace Q_t : Hid (StA W2 (some ⟨g1, 0, none⟩) m.ts) := hW ▸ ((StA.kept Q_t.out hk).other (by omega))
  have Q_z : Hid (Row W2 g2 m.zs) := hW ▸ (Row.other (R_z) (p := ⟨w.heap.size + 2, 2, none⟩) (by show _ ≠ w.heap.size + 2; omega) _)
  clear R_z
  replace HK : Hid (Kept w W2) := hW ▸ (Kept.set (Kept.trans HK.out hk) (by simp) _)
  replace HS : Hid (w.heap.size + 3 ≤ W2.heap.size) := by have := hk.size; rw [Hid, ← hW]; simp only [World.size_setCell]; omega
  clear y2 hs hk y2_2
  go_upto_region 4 with (fail)
  try simp only [hW]
  clear hW n2 z2
  have a3 := (Cells.m3 X0.out)
  have a4 := (Cells.m4 X0.out)
  have a5 := (Cells.m5 X0.out)
  have a6 := (Cells.m6 X0.out)
  have hC := toMarker_ok W2 h.ga h.ba h.gc h.bc m.ph m.at' m.gs m.bs (MchA.kept HA.out HK.out).g (MchA.kept HA.out HK.out).b HL.out.g HL.out.b
  go_wp2_with fail
  refine hC.mono ?_
  rintro e u ⟨g3, g4, rfl, l3, l4, R_g, R_b, hk⟩
  clear hC a3 a4 a5 a6
  have hs := HS.out
  replace l4 : w.heap.size + 3 ≤ g4 := by omega
  replace l3 : w.heap.size + 3 ≤ g3 := by omega
  obtain ⟨W3, hW⟩ : ∃ x, ((((u).setCell ⟨w.heap.size + 2, 3, none⟩ (.int .i64 m.ph)).setCell ⟨w.heap.size + 2, 4, none⟩ (.slice (some ⟨g3, 0, none⟩) m.gs.length m.gs.length)).setCell ⟨w.heap.size + 2, 5, none⟩ (.slice (some ⟨g4, 0, none⟩) m.bs.length m.bs.length)).setCell ⟨w.heap.size + 2, 6, none⟩ (.int .i64 m.at') = x := ⟨_, rfl⟩
  have y2 := Cells.kept X2.out hk
  have n3 : (u).cell? ⟨w.heap.size + 2, 3, none⟩ = some (.int .i64 0) := Cells.cell y2 3
  have z3 : (u).frozen? ⟨w.heap.size + 2, 3, none⟩ = false := Cells.frozen y2 3
  have y2_3 := Cells.set 3 (.int .i64 m.ph) y2
  replace y2_3 : Cells ((u).setCell ⟨w.heap.size + 2, 3, none⟩ (.int .i64 m.ph)) (w.heap.size + 2) 43 #[.slice (some ⟨g0, 0, none⟩) m.cs.length m.cs.length, .slice (some ⟨g1, 0, none⟩) m.ts.length m.ts.length, .slice (some ⟨g2, 0, none⟩) m.zs.length m.zs.length, .int .i64 m.ph, .slice none 0 0, .slice none 0 0, .int .i64 0, .slice none 0 0, .slice none 0 0, .slice none 0 0, .bool false, .int .i64 0] := y2_3
  have n4 : ((u).setCell ⟨w.heap.size + 2, 3, none⟩ (.int .i64 m.ph)).cell? ⟨w.heap.size + 2, 4, none⟩ = some (.slice none 0 0) := Cells.cell y2_3 4
  have z4 : ((u).setCell ⟨w.heap.size + 2, 3, none⟩ (.int .i64 m.ph)).frozen? ⟨w.heap.size + 2, 4, none⟩ = false := Cells.frozen y2_3 4
  have y2_4 := Cells.set 4 (.slice (some ⟨g3, 0, none⟩) m.gs.length m.gs.length) y2_3
  replace y2_4 : Cells (((u).setCell ⟨w.heap.size + 2, 3, none⟩ (.int .i64 m.ph)).setCell ⟨w.heap.size + 2, 4, none⟩ (.slice (some ⟨g3, 0, none⟩) m.gs.length m.gs.length)) (w.heap.size + 2) 43 #[.slice (some ⟨g0, 0, none⟩) m.cs.length m.cs.length, .slice (some ⟨g1, 0, none⟩) m.ts.length m.ts.length, .slice (some ⟨g2, 0, none⟩) m.zs.length m.zs.length, .int .i64 m.ph, .slice (some ⟨g3, 0, none⟩) m.gs.length m.gs.length, .slice none 0 0, .int .i64 0, .slice none 0 0, .slice none 0 0, .slice none 0 0, .bool false, .int .i64 0] := y2_4
  have n5 : (((u).setCell ⟨w.heap.size + 2, 3, none⟩ (.int .i64 m.ph)).setCell ⟨w.heap.size + 2, 4, none⟩ (.slice (some ⟨g3, 0, none⟩) m.gs.length m.gs.length)).cell? ⟨w.heap.size + 2, 5, none⟩ = some (.slice none 0 0) := Cells.cell y2_4 5
  have z5 : (((u).setCell ⟨w.heap.size + 2, 3, none⟩ (.int .i64 m.ph)).setCell ⟨w.heap.size + 2, 4, none⟩ (.slice (some ⟨g3, 0, none⟩) m.gs.length m.gs.length)).frozen? ⟨w.heap.size + 2, 5, none⟩ = false := Cells.frozen y2_4 5
  have y2_5 := Cells.set 5 (.slice (some ⟨g4, 0, none⟩) m.bs.length m.bs.length) y2_4
  replace y2_5 : Cells ((((u).setCell ⟨w.heap.size + 2, 3, none⟩ (.int .i64 m.ph)).setCell ⟨w.heap.size + 2, 4, none⟩ (.slice (some ⟨g3, 0, none⟩) m.gs.length m.gs.length)).setCell ⟨w.heap.size + 2, 5, none⟩ (.slice (some ⟨g4, 0, none⟩) m.bs.length m.bs.length)) (w.heap.size + 2) 43 #[.slice (some ⟨g0, 0, none⟩) m.cs.length m.cs.length, .slice (some ⟨g1, 0, none⟩) m.ts.length m.ts.length, .slice (some ⟨g2, 0, none⟩) m.zs.length m.zs.length, .int .i64 m.ph, .slice (some ⟨g3, 0, none⟩) m.gs.length m.gs.length, .slice (some ⟨g4, 0, none⟩) m.bs.length m.bs.length, .int .i64 0, .slice none 0 0, .slice none 0 0, .slice none 0 0, .bool false, .int .i64 0] := y2_5
  have n6 : ((((u).setCell ⟨w.heap.size + 2, 3, none⟩ (.int .i64 m.ph)).setCell ⟨w.heap.size + 2, 4, none⟩ (.slice (some ⟨g3, 0, none⟩) m.gs.length m.gs.length)).setCell ⟨w.heap.size + 2, 5, none⟩ (.slice (some ⟨g4, 0, none⟩) m.bs.length m.bs.length)).cell? ⟨w.heap.size + 2, 6, none⟩ = some (.int .i64 0) := Cells.cell y2_5 6
  have z6 : ((((u).setCell ⟨w.heap.size + 2, 3, none⟩ (.int .i64 m.ph)).setCell ⟨w.heap.size + 2, 4, none⟩ (.slice (some ⟨g3, 0, none⟩) m.gs.length m.gs.length)).setCell ⟨w.heap.size + 2, 5, none⟩ (.slice (some ⟨g4, 0, none⟩) m.bs.length m.bs.length)).frozen? ⟨w.heap.size + 2, 6, none⟩ = false := Cells.frozen y2_5 6
  have y2_6 := Cells.set 6 (.int .i64 m.at') y2_5
  replace y2_6 : Cells (((((u).setCell ⟨w.heap.size + 2, 3, none⟩ (.int .i64 m.ph)).setCell ⟨w.heap.size + 2, 4, none⟩ (.slice (some ⟨g3, 0, none⟩) m.gs.length m.gs.length)).setCell ⟨w.heap.size + 2, 5, none⟩ (.slice (some ⟨g4, 0, none⟩) m.bs.length m.bs.length)).setCell ⟨w.heap.size + 2, 6, none⟩ (.int .i64 m.at')) (w.heap.size + 2) 43 #[.slice (some ⟨g0, 0, none⟩) m.cs.length m.cs.length, .slice (some ⟨g1, 0, none⟩) m.ts.length m.ts.length, .slice (some ⟨g2, 0, none⟩) m.zs.length m.zs.length, .int .i64 m.ph, .slice (some ⟨g3, 0, none⟩) m.gs.length m.gs.length, .slice (some ⟨g4, 0, none⟩) m.bs.length m.bs.length, .int .i64 m.at', .slice none 0 0, .slice none 0 0, .slice none 0 0, .bool false, .int .i64 0] := y2_6
  replace X2 : Hid (Cells W3 (w.heap.size + 2) 43 #[.slice (some ⟨g0, 0, none⟩) m.cs.length m.cs.length, .slice (some ⟨g1, 0, none⟩) m.ts.length m.ts.length, .slice (some ⟨g2, 0, none⟩) m.zs.length m.zs.length, .int .i64 m.ph, .slice (some ⟨g3, 0, none⟩) m.gs.length m.gs.length, .slice (some ⟨g4, 0, none⟩) m.bs.length m.bs.length, .int .i64 m.at', .slice none 0 0, .slice none 0 0, .slice none 0 0, .bool false, .int .i64 0]) := hW ▸ y2_6
  replace X0 : Hid (Cells W3 w.heap.size 33 (mchC h m)) := hW ▸ (Cells.other ((Cells.other ((Cells.other ((Cells.other (Cells.kept X0.out hk) (p := ⟨w.heap.size + 2, 3, none⟩) (by simp) _)) (p := ⟨w.heap.size + 2, 4, none⟩) (by simp) _)) (p := ⟨w.heap.size + 2, 5, none⟩) (by simp) _)) (p := ⟨w.heap.size + 2, 6, none⟩) (by simp) _)
  replace X1 : Hid (Cells W3 (w.heap.size + 1) 43 #[.slice none 0 0, .slice none 0 0, .slice none 0 0, .int .i64 0, .slice none 0 0, .slice none 0 0, .int .i64 0, .slice none 0 0, .slice none 0 0, .slice none 0 0, .bool false, .int .i64 0]) := hW ▸ (Cells.other ((Cells.other ((Cells.other ((Cells.other (Cells.kept X1.out hk) (p := ⟨w.heap.size + 2, 3, none⟩) (by simp) _)) (p := ⟨w.heap.size + 2, 4, none⟩) (by simp) _)) (p := ⟨w.heap.size + 2, 5, none⟩) (by simp) _)) (p := ⟨w.heap.size + 2, 6, none⟩) (by simp) _)
  replace Q_c : Hid (CodsO W3 g0 m.cs) := hW ▸ (CodsO.other ((CodsO.other ((CodsO.other ((CodsO.other (CodsO.kept Q_c.out hk) (by omega))) (by omega))) (by omega))) (by omega))
  replace Q_t : Hid (StA W3 (some ⟨g1, 0, none⟩) m.ts) := hW ▸ ((((((((StA.kept Q_t.out hk).other (by omega))).other (by omega))).other (by omega))).other (by omega))
  replace Q_z : Hid (Row W3 g2 m.zs) := hW ▸ (Row.other ((Row.other ((Row.other ((Row.other (Row.kept Q_z.out hk) (p := ⟨w.heap.size + 2, 3, none⟩) (by show _ ≠ w.heap.size + 2; omega) _)) (p := ⟨w.heap.size + 2, 4, none⟩) (by show _ ≠ w.heap.size + 2; omega) _)) (p := ⟨w.heap.size + 2, 5, none⟩) (by show _ ≠ w.heap.size + 2; omega) _)) (p := ⟨w.heap.size + 2, 6, none⟩) (by show _ ≠ w.heap.size + 2; omega) _)
  have Q_g : Hid (Row W3 g3 m.gs) := hW ▸ (Row.other ((Row.other ((Row.other ((Row.other (R_g) (p := ⟨w.heap.size + 2, 3, none⟩) (by show _ ≠ w.heap.size + 2; omega) _)) (p := ⟨w.heap.size + 2, 4, none⟩) (by show _ ≠ w.heap.size + 2; omega) _)) (p := ⟨w.heap.size + 2, 5, none⟩) (by show _ ≠ w.heap.size + 2; omega) _)) (p := ⟨w.heap.size + 2, 6, none⟩) (by show _ ≠ w.heap.size + 2; omega) _)
  clear R_g
  have Q_b : Hid (Row W3 g4 m.bs) := hW ▸ (Row.other ((Row.other ((Row.other ((Row.other (R_b) (p := ⟨w.heap.size + 2, 3, none⟩) (by show _ ≠ w.heap.size + 2; omega) _)) (p := ⟨w.heap.size + 2, 4, none⟩) (by show _ ≠ w.heap.size + 2; omega) _)) (p := ⟨w.heap.size + 2, 5, none⟩) (by show _ ≠ w.heap.size + 2; omega) _)) (p := ⟨w.heap.size + 2, 6, none⟩) (by show _ ≠ w.heap.size + 2; omega) _)
  clear R_b
  replace HK : Hid (Kept w W3) := hW ▸ (Kept.set ((Kept.set ((Kept.set ((Kept.set (Kept.trans HK.out hk) (by simp) _)) (by simp) _)) (by simp) _)) (by simp) _)
  replace HS : Hid (w.heap.size + 3 ≤ W3.heap.size) := by have := hk.size; rw [Hid, ← hW]; simp only [World.size_setCell]; omega
  clear y2 hs hk y2_3 y2_4 y2_5 y2_6
  go_upto_region 5 with (fail)
  try simp only [hW]
  clear hW n3 z3 n4 z4 n5 z5 n6 z6
  have a7 := (Cells.m7 X0.out)
  have hC := toFrameS_ok W3 h.fa h.fc m.fs (MchA.kept HA.out HK.out).f HL.out.f
  go_wp2_with fail
  refine hC.mono ?_
  rintro e u ⟨rfl, R_f, hk⟩
  clear hC a7
  have hs := HS.out
  obtain ⟨g5, hg⟩ : ∃ x, W3.heap.size = x := ⟨_, rfl⟩
  rw [hg] at R_f
  try simp only [hg]
  have l5 : w.heap.size + 3 ≤ g5 := by omega
  clear hg
  obtain ⟨W4, hW⟩ : ∃ x, (u).setCell ⟨w.heap.size + 2, 7, none⟩ (.slice (some ⟨g5, 0, none⟩) m.fs.length m.fs.length) = x := ⟨_, rfl⟩
  have y2 := Cells.kept X2.out hk
  have n7 : (u).cell? ⟨w.heap.size + 2, 7, none⟩ = some (.slice none 0 0) := Cells.cell y2 7
  have z7 : (u).frozen? ⟨w.heap.size + 2, 7, none⟩ = false := Cells.frozen y2 7
  have y2_7 := Cells.set 7 (.slice (some ⟨g5, 0, none⟩) m.fs.length m.fs.length) y2
  replace y2_7 : Cells ((u).setCell ⟨w.heap.size + 2, 7, none⟩ (.slice (some ⟨g5, 0, none⟩) m.fs.length m.fs.length)) (w.heap.size + 2) 43 #[.slice (some ⟨g0, 0, none⟩) m.cs.length m.cs.length, .slice (some ⟨g1, 0, none⟩) m.ts.length m.ts.length, .slice (some ⟨g2, 0, none⟩) m.zs.length m.zs.length, .int .i64 m.ph, .slice (some ⟨g3, 0, none⟩) m.gs.length m.gs.length, .slice (some ⟨g4, 0, none⟩) m.bs.length m.bs.length, .int .i64 m.at', .slice (some ⟨g5, 0, none⟩) m.fs.length m.fs.length, .slice none 0 0, .slice none 0 0, .bool false, .int .i64 0] := y2_7
  replace X2 : Hid (Cells W4 (w.heap.size + 2) 43 #[.slice (some ⟨g0, 0, none⟩) m.cs.length m.cs.length, .slice (some ⟨g1, 0, none⟩) m.ts.length m.ts.length, .slice (some ⟨g2, 0, none⟩) m.zs.length m.zs.length, .int .i64 m.ph, .slice (some ⟨g3, 0, none⟩) m.gs.length m.gs.length, .slice (some ⟨g4, 0, none⟩) m.bs.length m.bs.length, .int .i64 m.at', .slice (some ⟨g5, 0, none⟩) m.fs.length m.fs.length, .slice none 0 0, .slice none 0 0, .bool false, .int .i64 0]) := hW ▸ y2_7
  replace X0 : Hid (Cells W4 w.heap.size 33 (mchC h m)) := hW ▸ (Cells.other (Cells.kept X0.out hk) (p := ⟨w.heap.size + 2, 7, none⟩) (by simp) _)
  replace X1 : Hid (Cells W4 (w.heap.size + 1) 43 #[.slice none 0 0, .slice none 0 0, .slice none 0 0, .int .i64 0, .slice none 0 0, .slice none 0 0, .int .i64 0, .slice none 0 0, .slice none 0 0, .slice none 0 0, .bool false, .int .i64 0]) := hW ▸ (Cells.other (Cells.kept X1.out hk) (p := ⟨w.heap.size + 2, 7, none⟩) (by simp) _)
  replace Q_c : Hid (CodsO W4 g0 m.cs) := hW ▸ (CodsO.other (CodsO.kept Q_c.out hk) (by omega))
  replace Q_t : Hid (StA W4 (some ⟨g1, 0, none⟩) m.ts) := hW ▸ ((StA.kept Q_t.out hk).other (by omega))
  replace Q_z : Hid (Row W4 g2 m.zs) := hW ▸ (Row.other (Row.kept Q_z.out hk) (p := ⟨w.heap.size + 2, 7, none⟩) (by show _ ≠ w.heap.size + 2; omega) _)
  replace Q_g : Hid (Row W4 g3 m.gs) := hW ▸ (Row.other (Row.kept Q_g.out hk) (p := ⟨w.heap.size + 2, 7, none⟩) (by show _ ≠ w.heap.size + 2; omega) _)
  replace Q_b : Hid (Row W4 g4 m.bs) := hW ▸ (Row.other (Row.kept Q_b.out hk) (p := ⟨w.heap.size + 2, 7, none⟩) (by show _ ≠ w.heap.size + 2; omega) _)
  have Q_f : Hid (StpsA W4 (some ⟨g5, 0, none⟩) m.fs) := hW ▸ ((R_f).other (by omega))
  clear R_f
  replace HK : Hid (Kept w W4) := hW ▸ (Kept.set (Kept.trans HK.out hk) (by simp) _)
  replace HS : Hid (w.heap.size + 3 ≤ W4.heap.size) := by have := hk.size; rw [Hid, ← hW]; simp only [World.size_setCell]; omega
  clear y2 hs hk y2_7
  go_upto_region 6 with (fail)
  try simp only [hW]
  clear hW n7 z7
  have a8 := (Cells.m8 X0.out)
  have hC := toIntS_ok W4 h.ka h.kc m.ks (MchA.kept HA.out HK.out).k HL.out.k
  go_wp2_with fail
  refine hC.mono ?_
  rintro e u ⟨rfl, R_k, hk⟩
  clear hC a8
  have hs := HS.out
  obtain ⟨g6, hg⟩ : ∃ x, W4.heap.size = x := ⟨_, rfl⟩
  rw [hg] at R_k
  try simp only [hg]
  have l6 : w.heap.size + 3 ≤ g6 := by omega
  clear hg
  obtain ⟨W5, hW⟩ : ∃ x, (u).setCell ⟨w.heap.size + 2, 8, none⟩ (.slice (some ⟨g6, 0, none⟩) m.ks.length m.ks.length) = x := ⟨_, rfl⟩
  have y2 := Cells.kept X2.out hk
  have n8 : (u).cell? ⟨w.heap.size + 2, 8, none⟩ = some (.slice none 0 0) := Cells.cell y2 8
  have z8 : (u).frozen? ⟨w.heap.size + 2, 8, none⟩ = false := Cells.frozen y2 8
  have y2_8 := Cells.set 8 (.slice (some ⟨g6, 0, none⟩) m.ks.length m.ks.length) y2
  replace y2_8 : Cells ((u).setCell ⟨w.heap.size + 2, 8, none⟩ (.slice (some ⟨g6, 0, none⟩) m.ks.length m.ks.length)) (w.heap.size + 2) 43 #[.slice (some ⟨g0, 0, none⟩) m.cs.length m.cs.length, .slice (some ⟨g1, 0, none⟩) m.ts.length m.ts.length, .slice (some ⟨g2, 0, none⟩) m.zs.length m.zs.length, .int .i64 m.ph, .slice (some ⟨g3, 0, none⟩) m.gs.length m.gs.length, .slice (some ⟨g4, 0, none⟩) m.bs.length m.bs.length, .int .i64 m.at', .slice (some ⟨g5, 0, none⟩) m.fs.length m.fs.length, .slice (some ⟨g6, 0, none⟩) m.ks.length m.ks.length, .slice none 0 0, .bool false, .int .i64 0] := y2_8
  replace X2 : Hid (Cells W5 (w.heap.size + 2) 43 #[.slice (some ⟨g0, 0, none⟩) m.cs.length m.cs.length, .slice (some ⟨g1, 0, none⟩) m.ts.length m.ts.length, .slice (some ⟨g2, 0, none⟩) m.zs.length m.zs.length, .int .i64 m.ph, .slice (some ⟨g3, 0, none⟩) m.gs.length m.gs.length, .slice (some ⟨g4, 0, none⟩) m.bs.length m.bs.length, .int .i64 m.at', .slice (some ⟨g5, 0, none⟩) m.fs.length m.fs.length, .slice (some ⟨g6, 0, none⟩) m.ks.length m.ks.length, .slice none 0 0, .bool false, .int .i64 0]) := hW ▸ y2_8
  replace X0 : Hid (Cells W5 w.heap.size 33 (mchC h m)) := hW ▸ (Cells.other (Cells.kept X0.out hk) (p := ⟨w.heap.size + 2, 8, none⟩) (by simp) _)
  replace X1 : Hid (Cells W5 (w.heap.size + 1) 43 #[.slice none 0 0, .slice none 0 0, .slice none 0 0, .int .i64 0, .slice none 0 0, .slice none 0 0, .int .i64 0, .slice none 0 0, .slice none 0 0, .slice none 0 0, .bool false, .int .i64 0]) := hW ▸ (Cells.other (Cells.kept X1.out hk) (p := ⟨w.heap.size + 2, 8, none⟩) (by simp) _)
  replace Q_c : Hid (CodsO W5 g0 m.cs) := hW ▸ (CodsO.other (CodsO.kept Q_c.out hk) (by omega))
  replace Q_t : Hid (StA W5 (some ⟨g1, 0, none⟩) m.ts) := hW ▸ ((StA.kept Q_t.out hk).other (by omega))
  replace Q_z : Hid (Row W5 g2 m.zs) := hW ▸ (Row.other (Row.kept Q_z.out hk) (p := ⟨w.heap.size + 2, 8, none⟩) (by show _ ≠ w.heap.size + 2; omega) _)
  replace Q_g : Hid (Row W5 g3 m.gs) := hW ▸ (Row.other (Row.kept Q_g.out hk) (p := ⟨w.heap.size + 2, 8, none⟩) (by show _ ≠ w.heap.size + 2; omega) _)
  replace Q_b : Hid (Row W5 g4 m.bs) := hW ▸ (Row.other (Row.kept Q_b.out hk) (p := ⟨w.heap.size + 2, 8, none⟩) (by show _ ≠ w.heap.size + 2; omega) _)
  replace Q_f : Hid (StpsA W5 (some ⟨g5, 0, none⟩) m.fs) := hW ▸ ((StpsA.kept Q_f.out hk).other (by omega))
  have Q_k : Hid (Row W5 g6 m.ks) := hW ▸ (Row.other (R_k) (p := ⟨w.heap.size + 2, 8, none⟩) (by show _ ≠ w.heap.size + 2; omega) _)
  clear R_k
  replace HK : Hid (Kept w W5) := hW ▸ (Kept.set (Kept.trans HK.out hk) (by simp) _)
  replace HS : Hid (w.heap.size + 3 ≤ W5.heap.size) := by have := hk.size; rw [Hid, ← hW]; simp only [World.size_setCell]; omega
  clear y2 hs hk y2_8
  go_upto_region 7 with (fail)
  try simp only [hW]
  clear hW n8 z8
  have a9 := (Cells.m9 X0.out)
  have hC := toStringS_ok W5 h.la h.lc m.ls (MchA.kept HA.out HK.out).l HL.out.l'
  go_wp2_with fail
  refine hC.mono ?_
  rintro e u ⟨rfl, R_l, hk⟩
  clear hC a9
  have hs := HS.out
  obtain ⟨g7, hg⟩ : ∃ x, W5.heap.size = x := ⟨_, rfl⟩
  rw [hg] at R_l
  try simp only [hg]
  have l7 : w.heap.size + 3 ≤ g7 := by omega
  clear hg
  obtain ⟨W6, hW⟩ : ∃ x, (u).setCell ⟨w.heap.size + 2, 9, none⟩ (.slice (some ⟨g7, 0, none⟩) m.ls.length m.ls.length) = x := ⟨_, rfl⟩
  have y2 := Cells.kept X2.out hk
  have n9 : (u).cell? ⟨w.heap.size + 2, 9, none⟩ = some (.slice none 0 0) := Cells.cell y2 9
  have z9 : (u).frozen? ⟨w.heap.size + 2, 9, none⟩ = false := Cells.frozen y2 9
  have y2_9 := Cells.set 9 (.slice (some ⟨g7, 0, none⟩) m.ls.length m.ls.length) y2
  replace y2_9 : Cells ((u).setCell ⟨w.heap.size + 2, 9, none⟩ (.slice (some ⟨g7, 0, none⟩) m.ls.length m.ls.length)) (w.heap.size + 2) 43 #[.slice (some ⟨g0, 0, none⟩) m.cs.length m.cs.length, .slice (some ⟨g1, 0, none⟩) m.ts.length m.ts.length, .slice (some ⟨g2, 0, none⟩) m.zs.length m.zs.length, .int .i64 m.ph, .slice (some ⟨g3, 0, none⟩) m.gs.length m.gs.length, .slice (some ⟨g4, 0, none⟩) m.bs.length m.bs.length, .int .i64 m.at', .slice (some ⟨g5, 0, none⟩) m.fs.length m.fs.length, .slice (some ⟨g6, 0, none⟩) m.ks.length m.ks.length, .slice (some ⟨g7, 0, none⟩) m.ls.length m.ls.length, .bool false, .int .i64 0] := y2_9
  replace X2 : Hid (Cells W6 (w.heap.size + 2) 43 #[.slice (some ⟨g0, 0, none⟩) m.cs.length m.cs.length, .slice (some ⟨g1, 0, none⟩) m.ts.length m.ts.length, .slice (some ⟨g2, 0, none⟩) m.zs.length m.zs.length, .int .i64 m.ph, .slice (some ⟨g3, 0, none⟩) m.gs.length m.gs.length, .slice (some ⟨g4, 0, none⟩) m.bs.length m.bs.length, .int .i64 m.at', .slice (some ⟨g5, 0, none⟩) m.fs.length m.fs.length, .slice (some ⟨g6, 0, none⟩) m.ks.length m.ks.length, .slice (some ⟨g7, 0, none⟩) m.ls.length m.ls.length, .bool false, .int .i64 0]) := hW ▸ y2_9
  replace X0 : Hid (Cells W6 w.heap.size 33 (mchC h m)) := hW ▸ (Cells.other (Cells.kept X0.out hk) (p := ⟨w.heap.size + 2, 9, none⟩) (by simp) _)
  replace X1 : Hid (Cells W6 (w.heap.size + 1) 43 #[.slice none 0 0, .slice none 0 0, .slice none 0 0, .int .i64 0, .slice none 0 0, .slice none 0 0, .int .i64 0, .slice none 0 0, .slice none 0 0, .slice none 0 0, .bool false, .int .i64 0]) := hW ▸ (Cells.other (Cells.kept X1.out hk) (p := ⟨w.heap.size + 2, 9, none⟩) (by simp) _)
  replace Q_c : Hid (CodsO W6 g0 m.cs) := hW ▸ (CodsO.other (CodsO.kept Q_c.out hk) (by omega))
  replace Q_t : Hid (StA W6 (some ⟨g1, 0, none⟩) m.ts) := hW ▸ ((StA.kept Q_t.out hk).other (by omega))
  replace Q_z : Hid (Row W6 g2 m.zs) := hW ▸ (Row.other (Row.kept Q_z.out hk) (p := ⟨w.heap.size + 2, 9, none⟩) (by show _ ≠ w.heap.size + 2; omega) _)
  replace Q_g : Hid (Row W6 g3 m.gs) := hW ▸ (Row.other (Row.kept Q_g.out hk) (p := ⟨w.heap.size + 2, 9, none⟩) (by show _ ≠ w.heap.size + 2; omega) _)
  replace Q_b : Hid (Row W6 g4 m.bs) := hW ▸ (Row.other (Row.kept Q_b.out hk) (p := ⟨w.heap.size + 2, 9, none⟩) (by show _ ≠ w.heap.size + 2; omega) _)
  replace Q_f : Hid (StpsA W6 (some ⟨g5, 0, none⟩) m.fs) := hW ▸ ((StpsA.kept Q_f.out hk).other (by omega))
  replace Q_k : Hid (Row W6 g6 m.ks) := hW ▸ (Row.other (Row.kept Q_k.out hk) (p := ⟨w.heap.size + 2, 9, none⟩) (by show _ ≠ w.heap.size + 2; omega) _)
  have Q_l : Hid (StA W6 (some ⟨g7, 0, none⟩) m.ls) := hW ▸ ((R_l).other (by omega))
  clear R_l
  replace HK : Hid (Kept w W6) := hW ▸ (Kept.set (Kept.trans HK.out hk) (by simp) _)
  replace HS : Hid (w.heap.size + 3 ≤ W6.heap.size) := by have := hk.size; rw [Hid, ← hW]; simp only [World.size_setCell]; omega
  clear y2 hs hk y2_9
  go_upto_region 8 with (fail)
  try simp only [hW]
  clear hW n9 z9
  have a10 := Cells.m10 X0.out
  obtain ⟨W7, hW⟩ : ∃ x, W6.setCell ⟨w.heap.size + 2, 10, none⟩ (.bool m.ov) = x := ⟨_, rfl⟩
  have n10 : W6.cell? ⟨w.heap.size + 2, 10, none⟩ = some (.bool false) := Cells.cell X2.out 10
  have z10 : W6.frozen? ⟨w.heap.size + 2, 10, none⟩ = false := Cells.frozen X2.out 10
  replace X2 : Hid (Cells W7 (w.heap.size + 2) 43 #[.slice (some ⟨g0, 0, none⟩) m.cs.length m.cs.length, .slice (some ⟨g1, 0, none⟩) m.ts.length m.ts.length, .slice (some ⟨g2, 0, none⟩) m.zs.length m.zs.length, .int .i64 m.ph, .slice (some ⟨g3, 0, none⟩) m.gs.length m.gs.length, .slice (some ⟨g4, 0, none⟩) m.bs.length m.bs.length, .int .i64 m.at', .slice (some ⟨g5, 0, none⟩) m.fs.length m.fs.length, .slice (some ⟨g6, 0, none⟩) m.ks.length m.ks.length, .slice (some ⟨g7, 0, none⟩) m.ls.length m.ls.length, .bool m.ov, .int .i64 0]) := hW ▸ Cells.set 10 (.bool m.ov) X2.out
  replace X0 : Hid (Cells W7 w.heap.size 33 (mchC h m)) := hW ▸ (Cells.other X0.out (p := ⟨w.heap.size + 2, 10, none⟩) (by simp) _)
  replace X1 : Hid (Cells W7 (w.heap.size + 1) 43 #[.slice none 0 0, .slice none 0 0, .slice none 0 0, .int .i64 0, .slice none 0 0, .slice none 0 0, .int .i64 0, .slice none 0 0, .slice none 0 0, .slice none 0 0, .bool false, .int .i64 0]) := hW ▸ (Cells.other X1.out (p := ⟨w.heap.size + 2, 10, none⟩) (by simp) _)
  replace Q_c : Hid (CodsO W7 g0 m.cs) := hW ▸ (CodsO.other (Q_c.out) (by omega))
  replace Q_t : Hid (StA W7 (some ⟨g1, 0, none⟩) m.ts) := hW ▸ ((Q_t.out).other (by omega))
  replace Q_z : Hid (Row W7 g2 m.zs) := hW ▸ (Row.other (Q_z.out) (p := ⟨w.heap.size + 2, 10, none⟩) (by show _ ≠ w.heap.size + 2; omega) _)
  replace Q_g : Hid (Row W7 g3 m.gs) := hW ▸ (Row.other (Q_g.out) (p := ⟨w.heap.size + 2, 10, none⟩) (by show _ ≠ w.heap.size + 2; omega) _)
  replace Q_b : Hid (Row W7 g4 m.bs) := hW ▸ (Row.other (Q_b.out) (p := ⟨w.heap.size + 2, 10, none⟩) (by show _ ≠ w.heap.size + 2; omega) _)
  replace Q_f : Hid (StpsA W7 (some ⟨g5, 0, none⟩) m.fs) := hW ▸ ((Q_f.out).other (by omega))
  replace Q_k : Hid (Row W7 g6 m.ks) := hW ▸ (Row.other (Q_k.out) (p := ⟨w.heap.size + 2, 10, none⟩) (by show _ ≠ w.heap.size + 2; omega) _)
  replace Q_l : Hid (StA W7 (some ⟨g7, 0, none⟩) m.ls) := hW ▸ ((Q_l.out).other (by omega))
  replace HK : Hid (Kept w W7) := hW ▸ (Kept.set HK.out (by simp) _)
  go_upto_region 9 with (fail)
  try simp only [hW]
  clear hW a10 n10 z10
  have a11 := Cells.m11 X0.out
  obtain ⟨W8, hW⟩ : ∃ x, W7.setCell ⟨w.heap.size + 2, 11, none⟩ (.int .i64 m.cd) = x := ⟨_, rfl⟩
  have n11 : W7.cell? ⟨w.heap.size + 2, 11, none⟩ = some (.int .i64 0) := Cells.cell X2.out 11
  have z11 : W7.frozen? ⟨w.heap.size + 2, 11, none⟩ = false := Cells.frozen X2.out 11
  replace X2 : Hid (Cells W8 (w.heap.size + 2) 43 #[.slice (some ⟨g0, 0, none⟩) m.cs.length m.cs.length, .slice (some ⟨g1, 0, none⟩) m.ts.length m.ts.length, .slice (some ⟨g2, 0, none⟩) m.zs.length m.zs.length, .int .i64 m.ph, .slice (some ⟨g3, 0, none⟩) m.gs.length m.gs.length, .slice (some ⟨g4, 0, none⟩) m.bs.length m.bs.length, .int .i64 m.at', .slice (some ⟨g5, 0, none⟩) m.fs.length m.fs.length, .slice (some ⟨g6, 0, none⟩) m.ks.length m.ks.length, .slice (some ⟨g7, 0, none⟩) m.ls.length m.ls.length, .bool m.ov, .int .i64 m.cd]) := hW ▸ Cells.set 11 (.int .i64 m.cd) X2.out
  replace X0 : Hid (Cells W8 w.heap.size 33 (mchC h m)) := hW ▸ (Cells.other X0.out (p := ⟨w.heap.size + 2, 11, none⟩) (by simp) _)
  replace X1 : Hid (Cells W8 (w.heap.size + 1) 43 #[.slice none 0 0, .slice none 0 0, .slice none 0 0, .int .i64 0, .slice none 0 0, .slice none 0 0, .int .i64 0, .slice none 0 0, .slice none 0 0, .slice none 0 0, .bool false, .int .i64 0]) := hW ▸ (Cells.other X1.out (p := ⟨w.heap.size + 2, 11, none⟩) (by simp) _)
  replace Q_c : Hid (CodsO W8 g0 m.cs) := hW ▸ (CodsO.other (Q_c.out) (by omega))
  replace Q_t : Hid (StA W8 (some ⟨g1, 0, none⟩) m.ts) := hW ▸ ((Q_t.out).other (by omega))
  replace Q_z : Hid (Row W8 g2 m.zs) := hW ▸ (Row.other (Q_z.out) (p := ⟨w.heap.size + 2, 11, none⟩) (by show _ ≠ w.heap.size + 2; omega) _)
  replace Q_g : Hid (Row W8 g3 m.gs) := hW ▸ (Row.other (Q_g.out) (p := ⟨w.heap.size + 2, 11, none⟩) (by show _ ≠ w.heap.size + 2; omega) _)
  replace Q_b : Hid (Row W8 g4 m.bs) := hW ▸ (Row.other (Q_b.out) (p := ⟨w.heap.size + 2, 11, none⟩) (by show _ ≠ w.heap.size + 2; omega) _)
  replace Q_f : Hid (StpsA W8 (some ⟨g5, 0, none⟩) m.fs) := hW ▸ ((Q_f.out).other (by omega))
  replace Q_k : Hid (Row W8 g6 m.ks) := hW ▸ (Row.other (Q_k.out) (p := ⟨w.heap.size + 2, 11, none⟩) (by show _ ≠ w.heap.size + 2; omega) _)
  replace Q_l : Hid (StA W8 (some ⟨g7, 0, none⟩) m.ls) := hW ▸ ((Q_l.out).other (by omega))
  replace HK : Hid (Kept w W8) := hW ▸ (Kept.set HK.out (by simp) _)
  go_upto_region 10 with (fail)
  try simp only [hW]
  clear hW a11 n11 z11
  have c0 := Cells.cell X2.out 0
  have c1 := Cells.cell X2.out 1
  have c2 := Cells.cell X2.out 2
  have c3 := Cells.cell X2.out 3
  have c4 := Cells.cell X2.out 4
  have c5 := Cells.cell X2.out 5
  have c6 := Cells.cell X2.out 6
  have c7 := Cells.cell X2.out 7
  have c8 := Cells.cell X2.out 8
  have c9 := Cells.cell X2.out 9
  have c10 := Cells.cell X2.out 10
  have c11 := Cells.cell X2.out 11
  have d0 := Cells.cell X1.out 0
  have d1 := Cells.cell X1.out 1
  have d2 := Cells.cell X1.out 2
  have d3 := Cells.cell X1.out 3
  have d4 := Cells.cell X1.out 4
  have d5 := Cells.cell X1.out 5
  have d6 := Cells.cell X1.out 6
  have d7 := Cells.cell X1.out 7
  have d8 := Cells.cell X1.out 8
  have d9 := Cells.cell X1.out 9
  have d10 := Cells.cell X1.out 10
  have d11 := Cells.cell X1.out 11
  have f0 := Cells.frozen X1.out 0
  have f1 := Cells.frozen X1.out 1
  have f2 := Cells.frozen X1.out 2
  have f3 := Cells.frozen X1.out 3
  have f4 := Cells.frozen X1.out 4
  have f5 := Cells.frozen X1.out 5
  have f6 := Cells.frozen X1.out 6
  have f7 := Cells.frozen X1.out 7
  have f8 := Cells.frozen X1.out 8
  have f9 := Cells.frozen X1.out 9
  have f10 := Cells.frozen X1.out 10
  have f11 := Cells.frozen X1.out 11
  go_wp2_with fail
  have p0 : Cells (W8.setCell ⟨w.heap.size + 1, 0, none⟩ (.slice (some ⟨g0, 0, none⟩) m.cs.length m.cs.length)) (w.heap.size + 1) 43 #[.slice (some ⟨g0, 0, none⟩) m.cs.length m.cs.length, .slice none 0 0, .slice none 0 0, .int .i64 0, .slice none 0 0, .slice none 0 0, .int .i64 0, .slice none 0 0, .slice none 0 0, .slice none 0 0, .bool false, .int .i64 0] := Cells.set 0 (.slice (some ⟨g0, 0, none⟩) m.cs.length m.cs.length) X1.out
  have p1 : Cells ((W8.setCell ⟨w.heap.size + 1, 0, none⟩ (.slice (some ⟨g0, 0, none⟩) m.cs.length m.cs.length)).setCell ⟨w.heap.size + 1, 1, none⟩ (.slice (some ⟨g1, 0, none⟩) m.ts.length m.ts.length)) (w.heap.size + 1) 43 #[.slice (some ⟨g0, 0, none⟩) m.cs.length m.cs.length, .slice (some ⟨g1, 0, none⟩) m.ts.length m.ts.length, .slice none 0 0, .int .i64 0, .slice none 0 0, .slice none 0 0, .int .i64 0, .slice none 0 0, .slice none 0 0, .slice none 0 0, .bool false, .int .i64 0] := Cells.set 1 (.slice (some ⟨g1, 0, none⟩) m.ts.length m.ts.length) p0
  have p2 : Cells (((W8.setCell ⟨w.heap.size + 1, 0, none⟩ (.slice (some ⟨g0, 0, none⟩) m.cs.length m.cs.length)).setCell ⟨w.heap.size + 1, 1, none⟩ (.slice (some ⟨g1, 0, none⟩) m.ts.length m.ts.length)).setCell ⟨w.heap.size + 1, 2, none⟩ (.slice (some ⟨g2, 0, none⟩) m.zs.length m.zs.length)) (w.heap.size + 1) 43 #[.slice (some ⟨g0, 0, none⟩) m.cs.length m.cs.length, .slice (some ⟨g1, 0, none⟩) m.ts.length m.ts.length, .slice (some ⟨g2, 0, none⟩) m.zs.length m.zs.length, .int .i64 0, .slice none 0 0, .slice none 0 0, .int .i64 0, .slice none 0 0, .slice none 0 0, .slice none 0 0, .bool false, .int .i64 0] := Cells.set 2 (.slice (some ⟨g2, 0, none⟩) m.zs.length m.zs.length) p1
  have p3 : Cells ((((W8.setCell ⟨w.heap.size + 1, 0, none⟩ (.slice (some ⟨g0, 0, none⟩) m.cs.length m.cs.length)).setCell ⟨w.heap.size + 1, 1, none⟩ (.slice (some ⟨g1, 0, none⟩) m.ts.length m.ts.length)).setCell ⟨w.heap.size + 1, 2, none⟩ (.slice (some ⟨g2, 0, none⟩) m.zs.length m.zs.length)).setCell ⟨w.heap.size + 1, 3, none⟩ (.int .i64 m.ph)) (w.heap.size + 1) 43 #[.slice (some ⟨g0, 0, none⟩) m.cs.length m.cs.length, .slice (some ⟨g1, 0, none⟩) m.ts.length m.ts.length, .slice (some ⟨g2, 0, none⟩) m.zs.length m.zs.length, .int .i64 m.ph, .slice none 0 0, .slice none 0 0, .int .i64 0, .slice none 0 0, .slice none 0 0, .slice none 0 0, .bool false, .int .i64 0] := Cells.set 3 (.int .i64 m.ph) p2
  have p4 : Cells (((((W8.setCell ⟨w.heap.size + 1, 0, none⟩ (.slice (some ⟨g0, 0, none⟩) m.cs.length m.cs.length)).setCell ⟨w.heap.size + 1, 1, none⟩ (.slice (some ⟨g1, 0, none⟩) m.ts.length m.ts.length)).setCell ⟨w.heap.size + 1, 2, none⟩ (.slice (some ⟨g2, 0, none⟩) m.zs.length m.zs.length)).setCell ⟨w.heap.size + 1, 3, none⟩ (.int .i64 m.ph)).setCell ⟨w.heap.size + 1, 4, none⟩ (.slice (some ⟨g3, 0, none⟩) m.gs.length m.gs.length)) (w.heap.size + 1) 43 #[.slice (some ⟨g0, 0, none⟩) m.cs.length m.cs.length, .slice (some ⟨g1, 0, none⟩) m.ts.length m.ts.length, .slice (some ⟨g2, 0, none⟩) m.zs.length m.zs.length, .int .i64 m.ph, .slice (some ⟨g3, 0, none⟩) m.gs.length m.gs.length, .slice none 0 0, .int .i64 0, .slice none 0 0, .slice none 0 0, .slice none 0 0, .bool false, .int .i64 0] := Cells.set 4 (.slice (some ⟨g3, 0, none⟩) m.gs.length m.gs.length) p3
  have p5 : Cells ((((((W8.setCell ⟨w.heap.size + 1, 0, none⟩ (.slice (some ⟨g0, 0, none⟩) m.cs.length m.cs.length)).setCell ⟨w.heap.size + 1, 1, none⟩ (.slice (some ⟨g1, 0, none⟩) m.ts.length m.ts.length)).setCell ⟨w.heap.size + 1, 2, none⟩ (.slice (some ⟨g2, 0, none⟩) m.zs.length m.zs.length)).setCell ⟨w.heap.size + 1, 3, none⟩ (.int .i64 m.ph)).setCell ⟨w.heap.size + 1, 4, none⟩ (.slice (some ⟨g3, 0, none⟩) m.gs.length m.gs.length)).setCell ⟨w.heap.size + 1, 5, none⟩ (.slice (some ⟨g4, 0, none⟩) m.bs.length m.bs.length)) (w.heap.size + 1) 43 #[.slice (some ⟨g0, 0, none⟩) m.cs.length m.cs.length, .slice (some ⟨g1, 0, none⟩) m.ts.length m.ts.length, .slice (some ⟨g2, 0, none⟩) m.zs.length m.zs.length, .int .i64 m.ph, .slice (some ⟨g3, 0, none⟩) m.gs.length m.gs.length, .slice (some ⟨g4, 0, none⟩) m.bs.length m.bs.length, .int .i64 0, .slice none 0 0, .slice none 0 0, .slice none 0 0, .bool false, .int .i64 0] := Cells.set 5 (.slice (some ⟨g4, 0, none⟩) m.bs.length m.bs.length) p4
  have p6 : Cells (((((((W8.setCell ⟨w.heap.size + 1, 0, none⟩ (.slice (some ⟨g0, 0, none⟩) m.cs.length m.cs.length)).setCell ⟨w.heap.size + 1, 1, none⟩ (.slice (some ⟨g1, 0, none⟩) m.ts.length m.ts.length)).setCell ⟨w.heap.size + 1, 2, none⟩ (.slice (some ⟨g2, 0, none⟩) m.zs.length m.zs.length)).setCell ⟨w.heap.size + 1, 3, none⟩ (.int .i64 m.ph)).setCell ⟨w.heap.size + 1, 4, none⟩ (.slice (some ⟨g3, 0, none⟩) m.gs.length m.gs.length)).setCell ⟨w.heap.size + 1, 5, none⟩ (.slice (some ⟨g4, 0, none⟩) m.bs.length m.bs.length)).setCell ⟨w.heap.size + 1, 6, none⟩ (.int .i64 m.at')) (w.heap.size + 1) 43 #[.slice (some ⟨g0, 0, none⟩) m.cs.length m.cs.length, .slice (some ⟨g1, 0, none⟩) m.ts.length m.ts.length, .slice (some ⟨g2, 0, none⟩) m.zs.length m.zs.length, .int .i64 m.ph, .slice (some ⟨g3, 0, none⟩) m.gs.length m.gs.length, .slice (some ⟨g4, 0, none⟩) m.bs.length m.bs.length, .int .i64 m.at', .slice none 0 0, .slice none 0 0, .slice none 0 0, .bool false, .int .i64 0] := Cells.set 6 (.int .i64 m.at') p5
  have p7 : Cells ((((((((W8.setCell ⟨w.heap.size + 1, 0, none⟩ (.slice (some ⟨g0, 0, none⟩) m.cs.length m.cs.length)).setCell ⟨w.heap.size + 1, 1, none⟩ (.slice (some ⟨g1, 0, none⟩) m.ts.length m.ts.length)).setCell ⟨w.heap.size + 1, 2, none⟩ (.slice (some ⟨g2, 0, none⟩) m.zs.length m.zs.length)).setCell ⟨w.heap.size + 1, 3, none⟩ (.int .i64 m.ph)).setCell ⟨w.heap.size + 1, 4, none⟩ (.slice (some ⟨g3, 0, none⟩) m.gs.length m.gs.length)).setCell ⟨w.heap.size + 1, 5, none⟩ (.slice (some ⟨g4, 0, none⟩) m.bs.length m.bs.length)).setCell ⟨w.heap.size + 1, 6, none⟩ (.int .i64 m.at')).setCell ⟨w.heap.size + 1, 7, none⟩ (.slice (some ⟨g5, 0, none⟩) m.fs.length m.fs.length)) (w.heap.size + 1) 43 #[.slice (some ⟨g0, 0, none⟩) m.cs.length m.cs.length, .slice (some ⟨g1, 0, none⟩) m.ts.length m.ts.length, .slice (some ⟨g2, 0, none⟩) m.zs.length m.zs.length, .int .i64 m.ph, .slice (some ⟨g3, 0, none⟩) m.gs.length m.gs.length, .slice (some ⟨g4, 0, none⟩) m.bs.length m.bs.length, .int .i64 m.at', .slice (some ⟨g5, 0, none⟩) m.fs.length m.fs.length, .slice none 0 0, .slice none 0 0, .bool false, .int .i64 0] := Cells.set 7 (.slice (some ⟨g5, 0, none⟩) m.fs.length m.fs.length) p6
  have p8 : Cells (((((((((W8.setCell ⟨w.heap.size + 1, 0, none⟩ (.slice (some ⟨g0, 0, none⟩) m.cs.length m.cs.length)).setCell ⟨w.heap.size + 1, 1, none⟩ (.slice (some ⟨g1, 0, none⟩) m.ts.length m.ts.length)).setCell ⟨w.heap.size + 1, 2, none⟩ (.slice (some ⟨g2, 0, none⟩) m.zs.length m.zs.length)).setCell ⟨w.heap.size + 1, 3, none⟩ (.int .i64 m.ph)).setCell ⟨w.heap.size + 1, 4, none⟩ (.slice (some ⟨g3, 0, none⟩) m.gs.length m.gs.length)).setCell ⟨w.heap.size + 1, 5, none⟩ (.slice (some ⟨g4, 0, none⟩) m.bs.length m.bs.length)).setCell ⟨w.heap.size + 1, 6, none⟩ (.int .i64 m.at')).setCell ⟨w.heap.size + 1, 7, none⟩ (.slice (some ⟨g5, 0, none⟩) m.fs.length m.fs.length)).setCell ⟨w.heap.size + 1, 8, none⟩ (.slice (some ⟨g6, 0, none⟩) m.ks.length m.ks.length)) (w.heap.size + 1) 43 #[.slice (some ⟨g0, 0, none⟩) m.cs.length m.cs.length, .slice (some ⟨g1, 0, none⟩) m.ts.length m.ts.length, .slice (some ⟨g2, 0, none⟩) m.zs.length m.zs.length, .int .i64 m.ph, .slice (some ⟨g3, 0, none⟩) m.gs.length m.gs.length, .slice (some ⟨g4, 0, none⟩) m.bs.length m.bs.length, .int .i64 m.at', .slice (some ⟨g5, 0, none⟩) m.fs.length m.fs.length, .slice (some ⟨g6, 0, none⟩) m.ks.length m.ks.length, .slice none 0 0, .bool false, .int .i64 0] := Cells.set 8 (.slice (some ⟨g6, 0, none⟩) m.ks.length m.ks.length) p7
  have p9 : Cells ((((((((((W8.setCell ⟨w.heap.size + 1, 0, none⟩ (.slice (some ⟨g0, 0, none⟩) m.cs.length m.cs.length)).setCell ⟨w.heap.size + 1, 1, none⟩ (.slice (some ⟨g1, 0, none⟩) m.ts.length m.ts.length)).setCell ⟨w.heap.size + 1, 2, none⟩ (.slice (some ⟨g2, 0, none⟩) m.zs.length m.zs.length)).setCell ⟨w.heap.size + 1, 3, none⟩ (.int .i64 m.ph)).setCell ⟨w.heap.size + 1, 4, none⟩ (.slice (some ⟨g3, 0, none⟩) m.gs.length m.gs.length)).setCell ⟨w.heap.size + 1, 5, none⟩ (.slice (some ⟨g4, 0, none⟩) m.bs.length m.bs.length)).setCell ⟨w.heap.size + 1, 6, none⟩ (.int .i64 m.at')).setCell ⟨w.heap.size + 1, 7, none⟩ (.slice (some ⟨g5, 0, none⟩) m.fs.length m.fs.length)).setCell ⟨w.heap.size + 1, 8, none⟩ (.slice (some ⟨g6, 0, none⟩) m.ks.length m.ks.length)).setCell ⟨w.heap.size + 1, 9, none⟩ (.slice (some ⟨g7, 0, none⟩) m.ls.length m.ls.length)) (w.heap.size + 1) 43 #[.slice (some ⟨g0, 0, none⟩) m.cs.length m.cs.length, .slice (some ⟨g1, 0, none⟩) m.ts.length m.ts.length, .slice (some ⟨g2, 0, none⟩) m.zs.length m.zs.length, .int .i64 m.ph, .slice (some ⟨g3, 0, none⟩) m.gs.length m.gs.length, .slice (some ⟨g4, 0, none⟩) m.bs.length m.bs.length, .int .i64 m.at', .slice (some ⟨g5, 0, none⟩) m.fs.length m.fs.length, .slice (some ⟨g6, 0, none⟩) m.ks.length m.ks.length, .slice (some ⟨g7, 0, none⟩) m.ls.length m.ls.length, .bool false, .int .i64 0] := Cells.set 9 (.slice (some ⟨g7, 0, none⟩) m.ls.length m.ls.length) p8
  have p10 : Cells (((((((((((W8.setCell ⟨w.heap.size + 1, 0, none⟩ (.slice (some ⟨g0, 0, none⟩) m.cs.length m.cs.length)).setCell ⟨w.heap.size + 1, 1, none⟩ (.slice (some ⟨g1, 0, none⟩) m.ts.length m.ts.length)).setCell ⟨w.heap.size + 1, 2, none⟩ (.slice (some ⟨g2, 0, none⟩) m.zs.length m.zs.length)).setCell ⟨w.heap.size + 1, 3, none⟩ (.int .i64 m.ph)).setCell ⟨w.heap.size + 1, 4, none⟩ (.slice (some ⟨g3, 0, none⟩) m.gs.length m.gs.length)).setCell ⟨w.heap.size + 1, 5, none⟩ (.slice (some ⟨g4, 0, none⟩) m.bs.length m.bs.length)).setCell ⟨w.heap.size + 1, 6, none⟩ (.int .i64 m.at')).setCell ⟨w.heap.size + 1, 7, none⟩ (.slice (some ⟨g5, 0, none⟩) m.fs.length m.fs.length)).setCell ⟨w.heap.size + 1, 8, none⟩ (.slice (some ⟨g6, 0, none⟩) m.ks.length m.ks.length)).setCell ⟨w.heap.size + 1, 9, none⟩ (.slice (some ⟨g7, 0, none⟩) m.ls.length m.ls.length)).setCell ⟨w.heap.size + 1, 10, none⟩ (.bool m.ov)) (w.heap.size + 1) 43 #[.slice (some ⟨g0, 0, none⟩) m.cs.length m.cs.length, .slice (some ⟨g1, 0, none⟩) m.ts.length m.ts.length, .slice (some ⟨g2, 0, none⟩) m.zs.length m.zs.length, .int .i64 m.ph, .slice (some ⟨g3, 0, none⟩) m.gs.length m.gs.length, .slice (some ⟨g4, 0, none⟩) m.bs.length m.bs.length, .int .i64 m.at', .slice (some ⟨g5, 0, none⟩) m.fs.length m.fs.length, .slice (some ⟨g6, 0, none⟩) m.ks.length m.ks.length, .slice (some ⟨g7, 0, none⟩) m.ls.length m.ls.length, .bool m.ov, .int .i64 0] := Cells.set 10 (.bool m.ov) p9
  have p11 : Cells ((((((((((((W8.setCell ⟨w.heap.size + 1, 0, none⟩ (.slice (some ⟨g0, 0, none⟩) m.cs.length m.cs.length)).setCell ⟨w.heap.size + 1, 1, none⟩ (.slice (some ⟨g1, 0, none⟩) m.ts.length m.ts.length)).setCell ⟨w.heap.size + 1, 2, none⟩ (.slice (some ⟨g2, 0, none⟩) m.zs.length m.zs.length)).setCell ⟨w.heap.size + 1, 3, none⟩ (.int .i64 m.ph)).setCell ⟨w.heap.size + 1, 4, none⟩ (.slice (some ⟨g3, 0, none⟩) m.gs.length m.gs.length)).setCell ⟨w.heap.size + 1, 5, none⟩ (.slice (some ⟨g4, 0, none⟩) m.bs.length m.bs.length)).setCell ⟨w.heap.size + 1, 6, none⟩ (.int .i64 m.at')).setCell ⟨w.heap.size + 1, 7, none⟩ (.slice (some ⟨g5, 0, none⟩) m.fs.length m.fs.length)).setCell ⟨w.heap.size + 1, 8, none⟩ (.slice (some ⟨g6, 0, none⟩) m.ks.length m.ks.length)).setCell ⟨w.heap.size + 1, 9, none⟩ (.slice (some ⟨g7, 0, none⟩) m.ls.length m.ls.length)).setCell ⟨w.heap.size + 1, 10, none⟩ (.bool m.ov)).setCell ⟨w.heap.size + 1, 11, none⟩ (.int .i64 m.cd)) (w.heap.size + 1) 43 #[.slice (some ⟨g0, 0, none⟩) m.cs.length m.cs.length, .slice (some ⟨g1, 0, none⟩) m.ts.length m.ts.length, .slice (some ⟨g2, 0, none⟩) m.zs.length m.zs.length, .int .i64 m.ph, .slice (some ⟨g3, 0, none⟩) m.gs.length m.gs.length, .slice (some ⟨g4, 0, none⟩) m.bs.length m.bs.length, .int .i64 m.at', .slice (some ⟨g5, 0, none⟩) m.fs.length m.fs.length, .slice (some ⟨g6, 0, none⟩) m.ks.length m.ks.length, .slice (some ⟨g7, 0, none⟩) m.ls.length m.ls.length, .bool m.ov, .int .i64 m.cd] := Cells.set 11 (.int .i64 m.cd) p10
  have q := p11
  have q0 := q.cell 0
  have q1 := q.cell 1
  have q2 := q.cell 2
  have q3 := q.cell 3
  have q4 := q.cell 4
  have q5 := q.cell 5
  have q6 := q.cell 6
  have q7 := q.cell 7
  have q8 := q.cell 8
  have q9 := q.cell 9
  have q10 := q.cell 10
  have q11 := q.cell 11
  refine bodyPost_ret (v := .agg #[.slice (some ⟨g0, 0, none⟩) m.cs.length m.cs.length, .slice (some ⟨g1, 0, none⟩) m.ts.length m.ts.length, .slice (some ⟨g2, 0, none⟩) m.zs.length m.zs.length, .int .i64 m.ph, .slice (some ⟨g3, 0, none⟩) m.gs.length m.gs.length, .slice (some ⟨g4, 0, none⟩) m.bs.length m.bs.length, .int .i64 m.at', .slice (some ⟨g5, 0, none⟩) m.fs.length m.fs.length, .slice (some ⟨g6, 0, none⟩) m.ks.length m.ks.length, .slice (some ⟨g7, 0, none⟩) m.ls.length m.ls.length, .bool m.ov, .int .i64 m.cd]) (by simp [results, Tryz.results8, go_sem, q0, q1, q2, q3, q4, q5, q6, q7, q8, q9, q10, q11]) rfl ⟨g0, g1, g2, g3, g4, g5, g6, g7, rfl, ⟨by omega, by omega, by omega, by omega, by omega, by omega, by omega, by omega, ?_, ?_, ?_, ?_, ?_, ?_, ?_, ?_⟩, ?_⟩
  · exact (CodsO.other ((CodsO.other ((CodsO.other ((CodsO.other ((CodsO.other ((CodsO.other ((CodsO.other ((CodsO.other ((CodsO.other ((CodsO.other ((CodsO.other ((CodsO.other (Q_c.out) (by omega))) (by omega))) (by omega))) (by omega))) (by omega))) (by omega))) (by omega))) (by omega))) (by omega))) (by omega))) (by omega))) (by omega))
  · exact ((((((((((((((((((((((((Q_t.out).other (by omega))).other (by omega))).other (by omega))).other (by omega))).other (by omega))).other (by omega))).other (by omega))).other (by omega))).other (by omega))).other (by omega))).other (by omega))).other (by omega))
  · exact (Row.other ((Row.other ((Row.other ((Row.other ((Row.other ((Row.other ((Row.other ((Row.other ((Row.other ((Row.other ((Row.other ((Row.other (Q_z.out) (p := ⟨w.heap.size + 1, 0, none⟩) (by show _ ≠ w.heap.size + 1; omega) _)) (p := ⟨w.heap.size + 1, 1, none⟩) (by show _ ≠ w.heap.size + 1; omega) _)) (p := ⟨w.heap.size + 1, 2, none⟩) (by show _ ≠ w.heap.size + 1; omega) _)) (p := ⟨w.heap.size + 1, 3, none⟩) (by show _ ≠ w.heap.size + 1; omega) _)) (p := ⟨w.heap.size + 1, 4, none⟩) (by show _ ≠ w.heap.size + 1; omega) _)) (p := ⟨w.heap.size + 1, 5, none⟩) (by show _ ≠ w.heap.size + 1; omega) _)) (p := ⟨w.heap.size + 1, 6, none⟩) (by show _ ≠ w.heap.size + 1; omega) _)) (p := ⟨w.heap.size + 1, 7, none⟩) (by show _ ≠ w.heap.size + 1; omega) _)) (p := ⟨w.heap.size + 1, 8, none⟩) (by show _ ≠ w.heap.size + 1; omega) _)) (p := ⟨w.heap.size + 1, 9, none⟩) (by show _ ≠ w.heap.size + 1; omega) _)) (p := ⟨w.heap.size + 1, 10, none⟩) (by show _ ≠ w.heap.size + 1; omega) _)) (p := ⟨w.heap.size + 1, 11, none⟩) (by show _ ≠ w.heap.size + 1; omega) _)
  · exact (Row.other ((Row.other ((Row.other ((Row.other ((Row.other ((Row.other ((Row.other ((Row.other ((Row.other ((Row.other ((Row.other ((Row.other (Q_g.out) (p := ⟨w.heap.size + 1, 0, none⟩) (by show _ ≠ w.heap.size + 1; omega) _)) (p := ⟨w.heap.size + 1, 1, none⟩) (by show _ ≠ w.heap.size + 1; omega) _)) (p := ⟨w.heap.size + 1, 2, none⟩) (by show _ ≠ w.heap.size + 1; omega) _)) (p := ⟨w.heap.size + 1, 3, none⟩) (by show _ ≠ w.heap.size + 1; omega) _)) (p := ⟨w.heap.size + 1, 4, none⟩) (by show _ ≠ w.heap.size + 1; omega) _)) (p := ⟨w.heap.size + 1, 5, none⟩) (by show _ ≠ w.heap.size + 1; omega) _)) (p := ⟨w.heap.size + 1, 6, none⟩) (by show _ ≠ w.heap.size + 1; omega) _)) (p := ⟨w.heap.size + 1, 7, none⟩) (by show _ ≠ w.heap.size + 1; omega) _)) (p := ⟨w.heap.size + 1, 8, none⟩) (by show _ ≠ w.heap.size + 1; omega) _)) (p := ⟨w.heap.size + 1, 9, none⟩) (by show _ ≠ w.heap.size + 1; omega) _)) (p := ⟨w.heap.size + 1, 10, none⟩) (by show _ ≠ w.heap.size + 1; omega) _)) (p := ⟨w.heap.size + 1, 11, none⟩) (by show _ ≠ w.heap.size + 1; omega) _)
  · exact (Row.other ((Row.other ((Row.other ((Row.other ((Row.other ((Row.other ((Row.other ((Row.other ((Row.other ((Row.other ((Row.other ((Row.other (Q_b.out) (p := ⟨w.heap.size + 1, 0, none⟩) (by show _ ≠ w.heap.size + 1; omega) _)) (p := ⟨w.heap.size + 1, 1, none⟩) (by show _ ≠ w.heap.size + 1; omega) _)) (p := ⟨w.heap.size + 1, 2, none⟩) (by show _ ≠ w.heap.size + 1; omega) _)) (p := ⟨w.heap.size + 1, 3, none⟩) (by show _ ≠ w.heap.size + 1; omega) _)) (p := ⟨w.heap.size + 1, 4, none⟩) (by show _ ≠ w.heap.size + 1; omega) _)) (p := ⟨w.heap.size + 1, 5, none⟩) (by show _ ≠ w.heap.size + 1; omega) _)) (p := ⟨w.heap.size + 1, 6, none⟩) (by show _ ≠ w.heap.size + 1; omega) _)) (p := ⟨w.heap.size + 1, 7, none⟩) (by show _ ≠ w.heap.size + 1; omega) _)) (p := ⟨w.heap.size + 1, 8, none⟩) (by show _ ≠ w.heap.size + 1; omega) _)) (p := ⟨w.heap.size + 1, 9, none⟩) (by show _ ≠ w.heap.size + 1; omega) _)) (p := ⟨w.heap.size + 1, 10, none⟩) (by show _ ≠ w.heap.size + 1; omega) _)) (p := ⟨w.heap.size + 1, 11, none⟩) (by show _ ≠ w.heap.size + 1; omega) _)
  · exact ((((((((((((((((((((((((Q_f.out).other (by omega))).other (by omega))).other (by omega))).other (by omega))).other (by omega))).other (by omega))).other (by omega))).other (by omega))).other (by omega))).other (by omega))).other (by omega))).other (by omega))
  · exact (Row.other ((Row.other ((Row.other ((Row.other ((Row.other ((Row.other ((Row.other ((Row.other ((Row.other ((Row.other ((Row.other ((Row.other (Q_k.out) (p := ⟨w.heap.size + 1, 0, none⟩) (by show _ ≠ w.heap.size + 1; omega) _)) (p := ⟨w.heap.size + 1, 1, none⟩) (by show _ ≠ w.heap.size + 1; omega) _)) (p := ⟨w.heap.size + 1, 2, none⟩) (by show _ ≠ w.heap.size + 1; omega) _)) (p := ⟨w.heap.size + 1, 3, none⟩) (by show _ ≠ w.heap.size + 1; omega) _)) (p := ⟨w.heap.size + 1, 4, none⟩) (by show _ ≠ w.heap.size + 1; omega) _)) (p := ⟨w.heap.size + 1, 5, none⟩) (by show _ ≠ w.heap.size + 1; omega) _)) (p := ⟨w.heap.size + 1, 6, none⟩) (by show _ ≠ w.heap.size + 1; omega) _)) (p := ⟨w.heap.size + 1, 7, none⟩) (by show _ ≠ w.heap.size + 1; omega) _)) (p := ⟨w.heap.size + 1, 8, none⟩) (by show _ ≠ w.heap.size + 1; omega) _)) (p := ⟨w.heap.size + 1, 9, none⟩) (by show _ ≠ w.heap.size + 1; omega) _)) (p := ⟨w.heap.size + 1, 10, none⟩) (by show _ ≠ w.heap.size + 1; omega) _)) (p := ⟨w.heap.size + 1, 11, none⟩) (by show _ ≠ w.heap.size + 1; omega) _)
  · exact ((((((((((((((((((((((((Q_l.out).other (by omega))).other (by omega))).other (by omega))).other (by omega))).other (by omega))).other (by omega))).other (by omega))).other (by omega))).other (by omega))).other (by omega))).other (by omega))).other (by omega))
  · exact (Kept.set (Kept.set (Kept.set (Kept.set (Kept.set (Kept.set (Kept.set (Kept.set (Kept.set (Kept.set (Kept.set (Kept.set HK.out (by simp) _) (by simp) _) (by simp) _) (by simp) _) (by simp) _) (by simp) _) (by simp) _) (by simp) _) (by simp) _) (by simp) _) (by simp) _) (by simp) _)
end Go.Proofs.YtgempjjnfpmndaaGreatDoor
namespace Go.Proofs.YtgempjjnfpmndaaGreatDoor
open Go.ChangeShapes Go.WideShapes Go.ChangeAt Go.RowKit
set_option linter.unusedSimpArgs false
set_option linter.unusedVariables false
theorem cellsFrameL : Tryz.prog.cellsOf 107 = 3 := by kernel_rfl
set_option maxRecDepth 100000 in
theorem frame_of {H : Type} {enc : TypeId × Value → H} {W : World} {fuel : Nat} {cs : List Value} {x : DataW H × List MemPlace} (hf : DataW.trod enc Tryz.prog W 0 (fun _ => true) true fuel 107 cs = some x) :
    ∃ o a b : Int, cs = [.int .i64 o, .int .i64 a, .int .i64 b] ∧ (Lit.int .i64 o).wf = true ∧ (Lit.int .i64 a).wf = true ∧ (Lit.int .i64 b).wf = true := by
  obtain ⟨xs, n, _, _, hl, hlen, hff⟩ := DataW.trod_struct Tryz.underlying107 hf
  obtain ⟨y0, y1, y2, rfl⟩ : ∃ y0 y1 y2, xs = [y0, y1, y2] := by
    match xs, hlen with
    | [y0, y1, y2], _ => exact ⟨y0, y1, y2, rfl⟩
  rw [cellsFrameL] at hl
  obtain ⟨c0, c1, c2, rfl⟩ : ∃ c0 c1 c2, cs = [c0, c1, c2] := by
    match cs, hl with
    | [c0, c1, c2], _ => exact ⟨c0, c1, c2, rfl⟩
  have h0 : DataW.trod enc Tryz.prog W 0 (fun _ => true) true n 3 [c0] = some y0 := by simpa [Value.cells, cellsIntS] using hff 0 _ rfl
  have h1 : DataW.trod enc Tryz.prog W 0 (fun _ => true) true n 3 [c1] = some y1 := by simpa [Value.cells, cellsIntS] using hff 1 _ rfl
  have h2 : DataW.trod enc Tryz.prog W 0 (fun _ => true) true n 3 [c2] = some y2 := by simpa [Value.cells, cellsIntS] using hff 2 _ rfl
  obtain ⟨o, e0, _, w0⟩ := DataW.trod_int Tryz.underlying3 h0
  obtain ⟨a, e1, _, w1⟩ := DataW.trod_int Tryz.underlying3 h1
  obtain ⟨b, e2, _, w2⟩ := DataW.trod_int Tryz.underlying3 h2
  simp at e0 e1 e2
  subst e0 e1 e2
  exact ⟨o, a, b, rfl, w0, w1, w2⟩
set_option maxRecDepth 100000 in
theorem frames_of {H : Type} {enc : TypeId × Value → H} {W : World} {fuel : Nat} {c : Value} {x : DataW H × List MemPlace} (hf : DataW.trod enc Tryz.prog W 0 (fun _ => true) true fuel 31 [c] = some x) :
    ∃ ao cap ss, c = .slice ao (List.length ss) cap ∧ ss.length ≤ maxLen ∧ StpsA W ao ss ∧ ∀ s ∈ ss, -9223372036854775808 ≤ s.2.2 ∧ s.2.2 ≤ 9223372036854775807 := by
  rcases DataW.trod_slice Tryz.underlying31 hf with ⟨e3, _⟩ | ⟨a, len, cap, elems, rest, n2, hn2, e3, _, _, hlc, hcm, hel, hcell, _, _⟩
  · simp at e3
    subst e3
    exact ⟨none, 0, [], rfl, by simp, fun j t ht => by simp at ht, fun s hs => by simp at hs⟩
  · simp at e3
    subst e3
    have key : ∀ i, i < len → ∃ t : Stp, (-9223372036854775808 ≤ t.2.2 ∧ t.2.2 ≤ 9223372036854775807) ∧ W.cell? (a.add (i * 3)) = some (.int .i64 t.1) ∧ W.cell? (a.add (i * 3 + 1)) = some (.int .i64 t.2.1) ∧ W.cell? (a.add (i * 3 + 2)) = some (.int .i64 t.2.2) := fun i hi => by
      have h4 := hcell i hi
      rw [List.getElem?_eq_getElem (by omega)] at h4
      obtain ⟨cs', hc1, hc2⟩ := Option.bind_eq_some_iff.1 h4
      obtain ⟨o, p, q, rfl, _, _, wq⟩ := frame_of hc2
      rw [cellsFrameL] at hc1
      obtain ⟨_, _, hc⟩ := World.cells?_some hc1
      have g0 := hc 0 (by omega)
      have g1 := hc 1 (by omega)
      have g2 := hc 2 (by omega)
      simp only [Go.Deep.add_add] at g0 g1 g2
      exact ⟨(o, p, q), wf_bounds wq, by simpa using g0, by simpa using g1, by simpa using g2⟩
    obtain ⟨f, hf2⟩ := Go.Deep.choose_lt key
    obtain ⟨b, off, spot⟩ := a
    refine ⟨some ⟨b, off, spot⟩, cap, (List.range len).map f, by simp, by simp; omega, fun k t e => ?_, fun s hs => by obtain ⟨k, hk, rfl⟩ := List.mem_map.1 hs; exact (hf2 k (by simpa using hk)).1⟩
    have hk : k < len := by
      have := (List.getElem?_eq_some_iff.1 e).1
      simpa using this
    have ht : t = f k := by
      rw [List.getElem?_map, List.getElem?_range hk] at e
      simpa using e.symm
    subst ht
    obtain ⟨_, g0, g1, g2⟩ := hf2 k hk
    have hspot : spot = none := by simpa [Addr.add] using World.cell?_spot (hf2 0 (by omega)).2.1
    subst hspot
    refine ⟨b, off, rfl, ?_, ?_, ?_⟩
    · rw [← g0]; unfold Addr.add; split <;> simp_all
    · rw [← g1]; unfold Addr.add; split <;> simp_all [Nat.add_assoc]
    · rw [← g2]; unfold Addr.add; split <;> simp_all [Nat.add_assoc]
theorem cellsMachineL : Tryz.prog.cellsOf 33 = 12 := by kernel_rfl
theorem cellsFramesL : Tryz.prog.cellsOf 31 = 1 := by kernel_rfl
theorem cellsBoolL : Tryz.prog.cellsOf 4 = 1 := by kernel_rfl
theorem cellsMarkerL : Tryz.prog.cellsOf 30 = 4 := by kernel_rfl
theorem cellsSlabL : Tryz.prog.cellsOf 28 = 1 := by kernel_rfl
theorem cellsIntsL : Tryz.prog.cellsOf 26 = 1 := by kernel_rfl
set_option maxRecDepth 100000 in
theorem unit_of {H : Type} {enc : TypeId × Value → H} {W : World} {fuel : Nat} {c0 c1 : Value} {x : DataW H × List MemPlace} (hf : DataW.trod enc Tryz.prog W 0 (fun _ => true) true fuel 25 [c0, c1] = some x) :
    ∃ (ca ta : Option Addr) (cc tc : Nat) (cs : List Cod) (ts : List ByteArray), c0 = .slice ca cs.length cc ∧ c1 = .slice ta ts.length tc ∧ FitC cs ∧ CodsA W ca cs ∧ FitT ts ∧ StA W ta ts := by
  obtain ⟨xs, n, _, _, hl, hlen, hff⟩ := DataW.trod_struct Tryz.underlying25 hf
  obtain ⟨y0, y1, rfl⟩ : ∃ y0 y1, xs = [y0, y1] := by
    match xs, hlen with
    | [y0, y1], _ => exact ⟨y0, y1, rfl⟩
  have h0 : DataW.trod enc Tryz.prog W 0 (fun _ => true) true n 22 [c0] = some y0 := by simpa [Value.cells, cellsCodesL] using hff 0 _ rfl
  have h1 : DataW.trod enc Tryz.prog W 0 (fun _ => true) true n 23 [c1] = some y1 := by simpa [Value.cells, cellsStrsF] using hff 1 _ rfl
  obtain ⟨ca, cc, cs, rfl, hF, hC⟩ := codes_of h0
  obtain ⟨ta, tc, ts, rfl, hG, hS⟩ := strs_of h1
  exact ⟨ca, ta, cc, tc, cs, ts, rfl, rfl, hF, hC, hG, hS⟩
set_option maxRecDepth 100000 in
theorem slab_of {H : Type} {enc : TypeId × Value → H} {W : World} {fuel : Nat} {c0 : Value} {x : DataW H × List MemPlace} (hf : DataW.trod enc Tryz.prog W 0 (fun _ => true) true fuel 28 [c0] = some x) :
    ∃ (ao : Option Addr) (cap : Nat) (zs : List Int), c0 = .slice ao zs.length cap ∧ zs.length ≤ cap ∧ cap ≤ maxLen ∧ Ints W ao zs := by
  obtain ⟨xs, n, _, _, hl, hlen, hff⟩ := DataW.trod_struct Tryz.underlying28 hf
  obtain ⟨y0, rfl⟩ : ∃ y0, xs = [y0] := by
    match xs, hlen with
    | [y0], _ => exact ⟨y0, rfl⟩
  have h0 : DataW.trod enc Tryz.prog W 0 (fun _ => true) true n 26 [c0] = some y0 := by simpa [Value.cells, cellsIntsL] using hff 0 _ rfl
  obtain ⟨ao, cap, zs, rfl, h1, h2, h3⟩ := Ints.of h0
  exact ⟨ao, cap, zs, rfl, h1, h2, h3⟩
set_option maxRecDepth 100000 in
theorem marker_of {H : Type} {enc : TypeId × Value → H} {W : World} {fuel : Nat} {c0 c1 c2 c3 : Value} {x : DataW H × List MemPlace} (hf : DataW.trod enc Tryz.prog W 0 (fun _ => true) true fuel 30 [c0, c1, c2, c3] = some x) :
    ∃ (ph at' : Int) (ga ba : Option Addr) (gc bc : Nat) (gs bs : List Int), c0 = .int .i64 ph ∧ c1 = .slice ga gs.length gc ∧ c2 = .slice ba bs.length bc ∧ c3 = .int .i64 at' ∧ (gs.length ≤ gc ∧ gc ≤ maxLen ∧ Ints W ga gs) ∧ (bs.length ≤ bc ∧ bc ≤ maxLen ∧ Ints W ba bs) ∧ (Lit.int .i64 ph).wf = true ∧ (Lit.int .i64 at').wf = true := by
  obtain ⟨xs, n, _, _, hl, hlen, hff⟩ := DataW.trod_struct Tryz.underlying30 hf
  obtain ⟨y0, y1, y2, y3, rfl⟩ : ∃ y0 y1 y2 y3, xs = [y0, y1, y2, y3] := by
    match xs, hlen with
    | [y0, y1, y2, y3], _ => exact ⟨y0, y1, y2, y3, rfl⟩
  have h0 : DataW.trod enc Tryz.prog W 0 (fun _ => true) true n 3 [c0] = some y0 := by simpa [Value.cells, cellsIntS] using hff 0 _ rfl
  have h1 : DataW.trod enc Tryz.prog W 0 (fun _ => true) true n 26 [c1] = some y1 := by simpa [Value.cells, cellsIntsL, cellsIntS] using hff 1 _ rfl
  have h2 : DataW.trod enc Tryz.prog W 0 (fun _ => true) true n 26 [c2] = some y2 := by simpa [Value.cells, cellsIntsL, cellsIntS] using hff 2 _ rfl
  have h3 : DataW.trod enc Tryz.prog W 0 (fun _ => true) true n 3 [c3] = some y3 := by simpa [Value.cells, cellsIntsL, cellsIntS] using hff 3 _ rfl
  obtain ⟨ph, e0, _, w0⟩ := DataW.trod_int Tryz.underlying3 h0
  obtain ⟨at', e3, _, w3⟩ := DataW.trod_int Tryz.underlying3 h3
  obtain ⟨ga, gc, gs, rfl, g1, g2, g3⟩ := Ints.of h1
  obtain ⟨ba, bc, bs, rfl, b1, b2, b3⟩ := Ints.of h2
  simp at e0 e3
  subst e0
  subst e3
  exact ⟨ph, at', ga, ba, gc, bc, gs, bs, rfl, rfl, rfl, rfl, ⟨g1, g2, g3⟩, ⟨b1, b2, b3⟩, w0, w3⟩
/-- What an argument of the type Machine fits. -/
structure MchWf (h : MchH) (m : Mch) : Prop where
  z : m.zs.length ≤ h.sc
  g : m.gs.length ≤ h.gc
  b : m.bs.length ≤ h.bc
  k : m.ks.length ≤ h.kc
  ph : (Lit.int .i64 m.ph).wf = true
  at' : (Lit.int .i64 m.at').wf = true
  cd : (Lit.int .i64 m.cd).wf = true
  f : ∀ s ∈ m.fs, -9223372036854775808 ≤ s.2.2 ∧ s.2.2 ≤ 9223372036854775807
set_option maxRecDepth 100000 in
theorem open_machine {H : Type} {enc : TypeId × Value → H} {W : World} {base : Nat} {v : Value} {d : DataW H} {p : List MemPlace} (hv : Value.okWide Tryz.prog W .any base 33 v) (h : DataW.Trod enc Tryz.prog W 0 (fun _ => true) true 33 v d p) :
    ∃ (h : MchH) (m : Mch), v = .agg (mchC h m) ∧ MchFit m ∧ MchA W h m ∧ MchWf h m := by
  obtain ⟨cs, rfl, hsz⟩ := okWide_struct Tryz.underlying33 hv
  obtain ⟨c0, c1, c2, c3, c4, c5, c6, c7, c8, c9, c10, c11, rfl⟩ : ∃ c0 c1 c2 c3 c4 c5 c6 c7 c8 c9 c10 c11, cs = #[c0, c1, c2, c3, c4, c5, c6, c7, c8, c9, c10, c11] := by
    have h1 : cs.size = 12 := hsz.trans cellsMachineL
    obtain ⟨l⟩ := cs
    match l, h1 with
    | [c0, c1, c2, c3, c4, c5, c6, c7, c8, c9, c10, c11], _ => exact ⟨c0, c1, c2, c3, c4, c5, c6, c7, c8, c9, c10, c11, rfl⟩
  obtain ⟨fuel, hf⟩ := h
  obtain ⟨xs, n, _, _, hl, hlen, hff⟩ := DataW.trod_struct Tryz.underlying33 hf
  obtain ⟨y0, y1, y2, y3, y4, y5, y6, y7, rfl⟩ : ∃ y0 y1 y2 y3 y4 y5 y6 y7, xs = [y0, y1, y2, y3, y4, y5, y6, y7] := by
    match xs, hlen with
    | [y0, y1, y2, y3, y4, y5, y6, y7], _ => exact ⟨y0, y1, y2, y3, y4, y5, y6, y7, rfl⟩
  have h0 : DataW.trod enc Tryz.prog W 0 (fun _ => true) true n 25 [c0, c1] = some y0 := by simpa [Value.cells, cellsIntS, cellsIntsL, cellsUnitL, cellsSlabL, cellsMarkerL, cellsFramesL, cellsStrsF, cellsBoolL] using hff 0 _ rfl
  have h1 : DataW.trod enc Tryz.prog W 0 (fun _ => true) true n 28 [c2] = some y1 := by simpa [Value.cells, cellsIntS, cellsIntsL, cellsUnitL, cellsSlabL, cellsMarkerL, cellsFramesL, cellsStrsF, cellsBoolL] using hff 1 _ rfl
  have h2 : DataW.trod enc Tryz.prog W 0 (fun _ => true) true n 30 [c3, c4, c5, c6] = some y2 := by simpa [Value.cells, cellsIntS, cellsIntsL, cellsUnitL, cellsSlabL, cellsMarkerL, cellsFramesL, cellsStrsF, cellsBoolL] using hff 2 _ rfl
  have h3 : DataW.trod enc Tryz.prog W 0 (fun _ => true) true n 31 [c7] = some y3 := by simpa [Value.cells, cellsIntS, cellsIntsL, cellsUnitL, cellsSlabL, cellsMarkerL, cellsFramesL, cellsStrsF, cellsBoolL] using hff 3 _ rfl
  have h4 : DataW.trod enc Tryz.prog W 0 (fun _ => true) true n 26 [c8] = some y4 := by simpa [Value.cells, cellsIntS, cellsIntsL, cellsUnitL, cellsSlabL, cellsMarkerL, cellsFramesL, cellsStrsF, cellsBoolL] using hff 4 _ rfl
  have h5 : DataW.trod enc Tryz.prog W 0 (fun _ => true) true n 23 [c9] = some y5 := by simpa [Value.cells, cellsIntS, cellsIntsL, cellsUnitL, cellsSlabL, cellsMarkerL, cellsFramesL, cellsStrsF, cellsBoolL] using hff 5 _ rfl
  have h6 : DataW.trod enc Tryz.prog W 0 (fun _ => true) true n 4 [c10] = some y6 := by simpa [Value.cells, cellsIntS, cellsIntsL, cellsUnitL, cellsSlabL, cellsMarkerL, cellsFramesL, cellsStrsF, cellsBoolL] using hff 6 _ rfl
  have h7 : DataW.trod enc Tryz.prog W 0 (fun _ => true) true n 3 [c11] = some y7 := by simpa [Value.cells, cellsIntS, cellsIntsL, cellsUnitL, cellsSlabL, cellsMarkerL, cellsFramesL, cellsStrsF, cellsBoolL] using hff 7 _ rfl
  obtain ⟨ca, ta, cc, tc, cs, ts, rfl, rfl, f1, f2, f3, f4⟩ := unit_of h0
  obtain ⟨sa, sc, zs, rfl, s1, s2, s3⟩ := slab_of h1
  obtain ⟨ph, at', ga, ba, gc, bc, gs, bs, rfl, rfl, rfl, rfl, ⟨g1, g2, g3⟩, ⟨b1, b2, b3⟩, w1, w2⟩ := marker_of h2
  obtain ⟨fa, fc, fs, rfl, r1, r2, r3⟩ := frames_of h3
  obtain ⟨ka, kc, ks, rfl, k1, k2, k3⟩ := Ints.of h4
  obtain ⟨la, lc, ls, rfl, l1, l2⟩ := strs_of h5
  obtain ⟨ov, e6, _⟩ := DataW.trod_bool Tryz.underlying4 h6
  obtain ⟨cd, e7, _, w7⟩ := DataW.trod_int Tryz.underlying3 h7
  simp at e6 e7
  subst e6
  subst e7
  exact ⟨⟨ca, cc, ta, tc, sa, sc, ga, gc, ba, bc, fa, fc, ka, kc, la, lc⟩, ⟨cs, ts, zs, ph, gs, bs, at', fs, ks, ls, ov, cd⟩, rfl, ⟨f1, f3, Nat.le_trans s1 s2, Nat.le_trans g1 g2, Nat.le_trans b1 b2, r1, Nat.le_trans k1 k2, l1⟩, ⟨f2, f4, s3, g3, b3, r2, k3, l2⟩, ⟨s1, g1, b1, k1, w1, w2, w7, r3⟩⟩
end Go.Proofs.YtgempjjnfpmndaaGreatDoor
