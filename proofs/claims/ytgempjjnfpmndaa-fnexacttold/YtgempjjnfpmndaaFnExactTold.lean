/-
  The law FnExactTold is proved: at every machine impl.Told answers as its model, writes nothing into it, and its answer owns its memory.
-/
import Derived.Test.YtgempjjnfpmndaaRows
import Derived.Test.YtgempjjnfpmndaaFrameR
import Derived.Test.YtgempjjnfpmndaaMchB
import Derived.Test.YtgempjjnfpmndaaMchE
import Derived.Test.YtgempjjnfpmndaaMchY
import Derived.Test.YtgempjjnfpmndaaMchO
import Derived.Test.YtgempjjnfpmndaaTolA
import Derived.Deep.RegionWith
namespace Go.Proofs.Ytgempjjnfpmndaa.fnExactTold
open Go.ChangeShapes Go.WideShapes Go.ChangeAt Go.RowKit
set_option linter.unusedVariables false

theorem own : ownKnob Try.prog.godebug = none := by kernel_rfl

theorem Cells.trO {lo hi : Nat} {W W' : World} {B : Nat} {t : TypeId} {cs : Array Value} (h : Cells W B t cs) (k : Tr lo hi W W') (hne : ¬ (lo ≤ B ∧ B < hi)) : Cells W' B t cs := (k.block B h.lt hne).trans h
set_option maxHeartbeats 16000000 in
set_option maxRecDepth 100000 in
theorem walk (w : World) (hh0 : MchH) (m0 : Mch) (hF0 : MchFit m0) (hA0 : MchA w hh0 m0) (hW0 : MchWf hh0 m0) :
    Calls Try.prog 3 #[.agg (mchC hh0 m0)] w fun e w' => e = .returned (.bool true) ∧ Kept w w' := by
  obtain ⟨WX, hWX⟩ : ∃ x, w.alloc (.cells (mchC hh0 m0) 33) = x := ⟨_, rfl⟩
  have HB : Hid (∀ u, Kept WX u → Cells u w.heap.size 33 (mchC hh0 m0)) := fun u hu => (hWX ▸ Cells.new w 33 (mchC hh0 m0) : Cells WX _ _ _).kept hu
  have k0 : Kept w WX := hWX ▸ Kept.alloc (Below.refl _ _) _
  have HK0 : Hid (Kept w WX) := k0
  have hSz := szMachine_ok WX hh0 m0 (hA0.kept k0) hF0
  have HTo : Hid (MchLe m0 → ∀ u, Kept WX u → Calls Try.prog 6 #[.agg (mchC hh0 m0)] u fun e w' => ∃ g0 g1 g2 g3 g4 g5 g6 g7, e = .returned (.agg (mchC (ownH m0 g0 g1 g2 g3 g4 g5 g6 g7) m0)) ∧ MchO w' u.heap.size g0 g1 g2 g3 g4 g5 g6 g7 m0 ∧ MchW w' u.heap.size w'.heap.size g0 g1 g2 g3 g4 g5 g6 g7 m0 ∧ Kept u w') := fun hL u hu => toMachine_x u hh0 m0 (hA0.kept (k0.trans hu)) hL
  obtain ⟨ls, hls⟩ : ∃ ls, m0.ls = ls := ⟨_, rfl⟩
  obtain ⟨D, hD⟩ : ∃ D, toldC m0 = D := ⟨_, rfl⟩
  obtain ⟨n, hn⟩ : ∃ n, ls.length = n := ⟨_, rfl⟩
  have HN : Hid (ls.length = n) := hn
  have HSp : Hid (MchLe m0 → ∀ u h' ad, MchA u h' m0 → h'.la = some ad → Calls Try.prog 5 #[.agg (mchC h' m0)] u fun e w' => ∃ ao cap, e = .returned (.agg #[.int .i64 D, .slice ao n cap]) ∧ OwnS w' u.heap.size (.slice ao n cap) ls ∧ Kept u w') := fun hL u h' ad h1 h3 => (spec_Told_ok u h' m0 ad h3 h1.l hL.l').mono (fun e w' ⟨v, e1, e2, e3⟩ => by
    rw [hls] at e2
    obtain ⟨ao, cap, rfl, _⟩ := e2.at
    rw [hD] at e1
    rw [hn] at e1 e2
    exact ⟨ao, cap, e1, e2, e3⟩)
  have HIm : Hid (MchLe m0 → ∀ u h' ad, MchA u h' m0 → h'.la = some ad → Calls Try.prog 7 #[.agg (mchC h' m0)] u fun e w' => ∃ ao cap, e = .returned (.agg #[.int .i64 D, .slice ao n cap]) ∧ OwnS w' u.heap.size (.slice ao n cap) ls ∧ Kept u w') := fun hL u h' ad h1 h3 => (impl_Told_ok u h' m0 ad h3 h1.l hL.l').mono (fun e w' ⟨v, e1, e2, e3⟩ => by
    rw [hls] at e2
    obtain ⟨ao, cap, rfl, _⟩ := e2.at
    rw [hD] at e1
    rw [hn] at e1 e2
    exact ⟨ao, cap, e1, e2, e3⟩)
  have HRl : Hid (MchLe m0 → n ≤ 1048576) := fun hL => by
    rw [← hn, ← hls]
    exact hL.l'
  have HEqO : Hid (n ≤ 1048576 → ∀ u ao bo ca cb, StA u ao ls → StA u bo ls → Calls Try.prog 8 #[.agg #[.int .i64 D, .slice ao n ca], .agg #[.int .i64 D, .slice bo n cb]] u fun e w' => e = .returned (.bool true) ∧ Kept u w') := fun hl u ao bo ca cb h1 h2 => hn ▸ eqOutc_ok u D ao bo ca cb ls h1 h2 (hn ▸ hl)
  have HMk : Hid (n ≤ 1048576 → ∀ u base ao ca, OwnS u base (.slice ao n ca) ls → Calls Try.prog 11 #[.agg #[.int .i64 D, .slice ao n ca], .int .i64 1] u fun e w' => e = .returned (.int .i64 ((n : Int) + 1)) ∧ StA w' ao (marksS n) ∧ u.grownBy w' (Value.slice ao n ca).ownBlock) := fun hl u base ao ca h1 => (markOutc_ok u base D _ ls h1 (hn ▸ hl)).mono (fun e w' ⟨e1, ⟨ao', cap', e2, e3⟩, e4⟩ => by
    rw [hn] at e1 e2 e3
    cases e2
    exact ⟨e1, e3, e4⟩)
  have HSt : Hid (∀ u base ao ca, OwnS u base (.slice ao n ca) ls → StA u ao ls) := fun u base ao ca h1 => by
    rw [← hn] at h1
    exact h1.stA
  have a0 := (HB.out _ (Below.refl _ _)).m0
  have a1 := (HB.out _ (Below.refl _ _)).m1
  have a2 := (HB.out _ (Below.refl _ _)).m2
  have a3 := (HB.out _ (Below.refl _ _)).m3
  have a4 := (HB.out _ (Below.refl _ _)).m4
  have a5 := (HB.out _ (Below.refl _ _)).m5
  have a6 := (HB.out _ (Below.refl _ _)).m6
  have a7 := (HB.out _ (Below.refl _ _)).m7
  have a8 := (HB.out _ (Below.refl _ _)).m8
  have a9 := (HB.out _ (Below.refl _ _)).m9
  have a10 := (HB.out _ (Below.refl _ _)).m10
  have a11 := (HB.out _ (Below.refl _ _)).m11
  clear hls hD hn hA0 hF0 hW0 k0
  go_enter Try.func3, Try.ntmps3
  go_upto_region 2 with (fail)
  try simp only [hWX]
  clear hWX
  go_wp2_with fail
  refine hSz.mono ?_
  rintro e w1 ⟨⟨r, rfl, hr⟩, k1⟩
  clear a0 a1 a2 a3 a4 a5 a6 a7 a8 a9 a10 a11
  rcases hr with ⟨hd, hLe⟩ | rfl
  rotate_left
  · go_wp2_with fail
    go_ret
    exact ⟨rfl, Kept.trans HK0.out k1⟩
  have HLe : Hid _ := hLe
  have hrl := HRl.out hLe
  have a0 := (HB.out _ k1).m0
  have a1 := (HB.out _ k1).m1
  have a2 := (HB.out _ k1).m2
  have a3 := (HB.out _ k1).m3
  have a4 := (HB.out _ k1).m4
  have a5 := (HB.out _ k1).m5
  have a6 := (HB.out _ k1).m6
  have a7 := (HB.out _ k1).m7
  have a8 := (HB.out _ k1).m8
  have a9 := (HB.out _ k1).m9
  have a10 := (HB.out _ k1).m10
  have a11 := (HB.out _ k1).m11
  have hTo := HTo.out HLe.out _ k1
  clear hLe hSz
  go_wp2_with fail
  refine hTo.mono ?_
  rintro e w2 ⟨p0, p1, p2, p3, p4, p5, p6, p7, rfl, O2, _, k2'⟩
  have hSp := HSp.out HLe.out _ _ _ O2.all rfl
  have k2 := k1.trans k2'
  clear hTo k2' O2 k1 a0 a1 a2 a3 a4 a5 a6 a7 a8 a9 a10 a11
  go_wp2_with fail
  refine hSp.mono ?_
  rintro e w3 ⟨so, sc, rfl, O3, k3'⟩
  have k3 := k2.trans k3'
  obtain ⟨W3, hW3⟩ : ∃ x, w3.alloc (.cells #[.int .i64 D, .slice so n sc] 36) = x := ⟨_, rfl⟩
  have k33 : Kept w3 W3 := hW3 ▸ Kept.alloc (Below.refl _ w3) _
  obtain ⟨B3, hB3⟩ : ∃ x, w3.heap.size = x := ⟨_, rfl⟩
  have C3 : Hid (Cells W3 B3 36 #[.int .i64 D, .slice so n sc]) := hB3 ▸ hW3 ▸ Cells.new w3 36 #[.int .i64 D, .slice so n sc]
  have HO3 : Hid (OwnS W3 w2.heap.size (.slice so n sc) ls) := O3.kept k33
  have L3 : Hid (∀ j, (Value.slice so n sc).ownBlock = some j → j < W3.heap.size) := fun j hj => (OwnS.block (O3.kept k33) j hj).2
  have K3 : Hid (Kept WX W3) := k3.trans k33
  have a0 := (HB.out _ K3.out).m0
  have a1 := (HB.out _ K3.out).m1
  have a2 := (HB.out _ K3.out).m2
  have a3 := (HB.out _ K3.out).m3
  have a4 := (HB.out _ K3.out).m4
  have a5 := (HB.out _ K3.out).m5
  have a6 := (HB.out _ K3.out).m6
  have a7 := (HB.out _ K3.out).m7
  have a8 := (HB.out _ K3.out).m8
  have a9 := (HB.out _ K3.out).m9
  have a10 := (HB.out _ K3.out).m10
  have a11 := (HB.out _ K3.out).m11
  have hTo := HTo.out HLe.out _ K3.out
  clear hSp k2 k3' O3 k3 k33
  go_upto_region 6 with (fail)
  try simp only [hW3]
  try simp only [hB3]
  clear hW3 hB3
  go_wp2_with fail
  refine hTo.mono ?_
  rintro e w4 ⟨g0, g1, g2, g3, g4, g5, g6, g7, rfl, O4, M4, k4'⟩
  have k4 := K3.out.trans k4'
  have K34 : Hid (Kept W3 w4) := k4'
  have S3 : Hid (WX.heap.size ≤ W3.heap.size) := K3.out.size
  clear hTo k4' a0 a1 a2 a3 a4 a5 a6 a7 a8 a9 a10 a11
  obtain ⟨h4, hh4⟩ : ∃ x, ownH m0 g0 g1 g2 g3 g4 g5 g6 g7 = x := ⟨_, rfl⟩
  have HLA : Hid (h4.la = some ⟨g7, 0, none⟩) := hh4 ▸ rfl
  have HO4 : Hid (∀ u, Kept w4 u → MchA u h4 m0) := fun u hu => hh4 ▸ (MchO.all O4).kept hu
  have HM : Hid (∀ u, Kept w4 u → Calls Try.prog 10 #[.agg (mchC h4 m0), .int .i64 1] u fun e w' => (∃ r : Int, e = .returned (.int .i64 r) ∧ decide (r < 0) = false) ∧ Tr W3.heap.size w4.heap.size u w') := fun u hu => hh4 ▸ markMachine_w u W3.heap.size w4.heap.size g0 g1 g2 g3 g4 g5 g6 g7 m0 (M4.tr (Tr.of hu)) HLe.out hu.size
  rw [hh4]
  clear hh4 O4 M4
  obtain ⟨WF, hWF⟩ : ∃ x, w4.alloc (.cells (mchC h4 m0) 45) = x := ⟨_, rfl⟩
  have XC : Cells WF w4.heap.size 45 (mchC h4 m0) := hWF ▸ Cells.new w4 45 (mchC h4 m0)
  have XB : Hid (∀ u, Kept WF u → Cells u w4.heap.size 45 (mchC h4 m0)) := fun u hu => XC.kept hu
  have kF : Kept w4 WF := hWF ▸ Kept.alloc (Below.refl _ _) _
  have SF : Hid (w4.heap.size < WF.heap.size) := XC.lt
  have K4F : Hid (Kept w4 WF) := kF
  have KF : Hid (Kept WX WF) := k4.trans kF
  have hIm := HIm.out HLe.out _ _ _ (HO4.out _ kF) HLA.out
  have x0 := (XB.out _ (Below.refl _ _)).m0
  have x1 := (XB.out _ (Below.refl _ _)).m1
  have x2 := (XB.out _ (Below.refl _ _)).m2
  have x3 := (XB.out _ (Below.refl _ _)).m3
  have x4 := (XB.out _ (Below.refl _ _)).m4
  have x5 := (XB.out _ (Below.refl _ _)).m5
  have x6 := (XB.out _ (Below.refl _ _)).m6
  have x7 := (XB.out _ (Below.refl _ _)).m7
  have x8 := (XB.out _ (Below.refl _ _)).m8
  have x9 := (XB.out _ (Below.refl _ _)).m9
  have x10 := (XB.out _ (Below.refl _ _)).m10
  have x11 := (XB.out _ (Below.refl _ _)).m11
  clear kF k4 XC
  go_upto_region 7 with (fail)
  try simp only [hWF]
  clear hWF
  go_wp2_with fail
  refine hIm.mono ?_
  rintro e w5 ⟨ro, rc, rfl, O5, k5⟩
  obtain ⟨W5, hW5⟩ : ∃ x, w5.alloc (.cells #[.int .i64 D, .slice ro n rc] 36) = x := ⟨_, rfl⟩
  have k55 : Kept w5 W5 := hW5 ▸ Kept.alloc (Below.refl _ w5) _
  have H5b : Hid (∀ j, (Value.slice ro n rc).ownBlock = some j → WF.heap.size ≤ j ∧ j < w5.heap.size) := fun j hj => OwnS.block O5 j hj
  have S5 : Hid (WF.heap.size ≤ w5.heap.size) := k5.size
  obtain ⟨B5, hB5⟩ : ∃ x, w5.heap.size = x := ⟨_, rfl⟩
  have C5 : Hid (Cells W5 B5 36 #[.int .i64 D, .slice ro n rc]) := hB5 ▸ hW5 ▸ Cells.new w5 36 #[.int .i64 D, .slice ro n rc]
  have HO5 : Hid (OwnS W5 WF.heap.size (.slice ro n rc) ls) := O5.kept k55
  have K5 : Hid (Kept WF W5) := k5.trans k55
  rw [hB5] at H5b S5
  have K35 : Hid (Kept W3 W5) := Kept.trans K34.out (Kept.trans K4F.out K5.out)
  have HO3' := OwnS.kept HO3.out K35.out
  have hE1 := HEqO.out hrl W5 ro so rc sc (HSt.out _ _ _ _ HO5.out) (HSt.out _ _ _ _ HO3')
  have c30 := (C3.out.kept K35.out).cell 0
  have c31 := (C3.out.kept K35.out).cell 1
  have c50 := C5.out.cell 0
  have c51 := C5.out.cell 1
  clear hIm O5 HO3' k5 k55 x0 x1 x2 x3 x4 x5 x6 x7 x8 x9 x10 x11
  go_upto_region 8 with (fail)
  try simp only [hW5]
  try simp only [hB5]
  clear hW5 hB5
  go_wp2_with fail
  refine hE1.mono ?_
  rintro e w6 ⟨rfl, k6⟩
  have kd : Kept w6 w6.drew := (Below.refl _ w6).drew
  have K6 : Hid (Kept WF w6.drew) := Kept.trans K5.out (k6.trans kd)
  have K56 : Hid (Kept W5 w6.drew) := k6.trans kd
  have KW : Hid (Kept WX w6.drew) := KF.out.trans K6.out
  have hTo := HTo.out HLe.out _ KW.out
  have HEq : Hid (∀ u h', Kept w6.drew u → MchA u h' m0 → Calls Try.prog 9 #[.agg (mchC h4 m0), .agg (mchC h' m0)] u fun e w' => e = .returned (.bool true) ∧ Kept u w') := fun u h' hu h1 => eqMachine_ok u h4 h' m0 (HO4.out _ (Kept.trans K4F.out (Kept.trans K6.out hu))) h1 HLe.out
  obtain ⟨B4, hB4⟩ : ∃ x, w4.heap.size = x := ⟨_, rfl⟩
  rw [hB4] at XB HM SF
  have a0 := (HB.out _ KW.out).m0
  have a1 := (HB.out _ KW.out).m1
  have a2 := (HB.out _ KW.out).m2
  have a3 := (HB.out _ KW.out).m3
  have a4 := (HB.out _ KW.out).m4
  have a5 := (HB.out _ KW.out).m5
  have a6 := (HB.out _ KW.out).m6
  have a7 := (HB.out _ KW.out).m7
  have a8 := (HB.out _ KW.out).m8
  have a9 := (HB.out _ KW.out).m9
  have a10 := (HB.out _ KW.out).m10
  have a11 := (HB.out _ KW.out).m11
  have x0 := (XB.out _ K6.out).m0
  have x1 := (XB.out _ K6.out).m1
  have x2 := (XB.out _ K6.out).m2
  have x3 := (XB.out _ K6.out).m3
  have x4 := (XB.out _ K6.out).m4
  have x5 := (XB.out _ K6.out).m5
  have x6 := (XB.out _ K6.out).m6
  have x7 := (XB.out _ K6.out).m7
  have x8 := (XB.out _ K6.out).m8
  have x9 := (XB.out _ K6.out).m9
  have x10 := (XB.out _ K6.out).m10
  have x11 := (XB.out _ K6.out).m11
  clear hE1 k6 kd c30 c31 c50 c51
  go_upto_region 10 with (fail)
  try simp only [hB4]
  clear hB4
  go_region_with (first
    | (have g := kq; go_at_call 9; refine (HEq.out _ _ kq O7.all).mono ?_; rintro e w8 ⟨rfl, kq8⟩)
    | (go_at_call 6; refine hTo.mono ?_; rintro e w7 ⟨q0, q1, q2, q3, q4, q5, q6, q7, rfl, O7, _, kq⟩; have x0 := (XB.out _ (Kept.trans K6.out kq)).m0; have x1 := (XB.out _ (Kept.trans K6.out kq)).m1; have x2 := (XB.out _ (Kept.trans K6.out kq)).m2; have x3 := (XB.out _ (Kept.trans K6.out kq)).m3; have x4 := (XB.out _ (Kept.trans K6.out kq)).m4; have x5 := (XB.out _ (Kept.trans K6.out kq)).m5; have x6 := (XB.out _ (Kept.trans K6.out kq)).m6; have x7 := (XB.out _ (Kept.trans K6.out kq)).m7; have x8 := (XB.out _ (Kept.trans K6.out kq)).m8; have x9 := (XB.out _ (Kept.trans K6.out kq)).m9; have x10 := (XB.out _ (Kept.trans K6.out kq)).m10; have x11 := (XB.out _ (Kept.trans K6.out kq)).m11))
  all_goals (
    have K8 : Hid (Kept w6.drew w8) := kq.trans kq8
    have KF8 : Hid (Kept WF w8) := Kept.trans K6.out K8.out
    have K58 : Hid (Kept W5 w8) := Kept.trans K56.out K8.out
    clear kq kq8 O7 hTo a0 a1 a2 a3 a4 a5 a6 a7 a8 a9 a10 a11 x0 x1 x2 x3 x4 x5 x6 x7 x8 x9 x10 x11
    have x0 := (XB.out _ KF8.out).m0
    have x1 := (XB.out _ KF8.out).m1
    have x2 := (XB.out _ KF8.out).m2
    have x3 := (XB.out _ KF8.out).m3
    have x4 := (XB.out _ KF8.out).m4
    have x5 := (XB.out _ KF8.out).m5
    have x6 := (XB.out _ KF8.out).m6
    have x7 := (XB.out _ KF8.out).m7
    have x8 := (XB.out _ KF8.out).m8
    have x9 := (XB.out _ KF8.out).m9
    have x10 := (XB.out _ KF8.out).m10
    have x11 := (XB.out _ KF8.out).m11
    have hM := HM.out _ (Kept.trans K4F.out KF8.out)
    go_wp2_with fail
    refine hM.mono ?_
    rintro e w9 ⟨⟨r9, rfl, hr9⟩, t9⟩
    have K38 : Kept W3 w8 := Kept.trans K35.out K58.out
    have O5a := OwnS.kept HO5.out K58.out
    have O3a := OwnS.kept HO3.out K38
    have O5b : OwnS w9 WF.heap.size (.slice ro n rc) ls := OwnS.tr O5a t9 (fun j hj => by have := (H5b.out j hj).1; have := SF.out; omega)
    have O3b : OwnS w9 w2.heap.size (.slice so n sc) ls := OwnS.tr O3a t9 (fun j hj => by have := L3.out j hj; omega)
    have C3b : Hid (Cells w9 B3 36 #[.int .i64 D, .slice so n sc]) := Cells.trO (C3.out.kept K38) t9 (by have := C3.out.lt; omega)
    have C5b : Hid (Cells w9 B5 36 #[.int .i64 D, .slice ro n rc]) := Cells.trO (C5.out.kept K58.out) t9 (by have := SF.out; have := S5.out; omega)
    have KW9 : Hid (Kept WX w9) := Tr.kept (Kept.trans KF.out KF8.out) t9 S3.out
    have hE2 := HEqO.out hrl w9 ro so rc sc (HSt.out _ _ _ _ O5b) (HSt.out _ _ _ _ O3b)
    have HO5b : Hid _ := O5b
    have HO3b : Hid _ := O3b
    have c30 := C3b.out.cell 0
    have c31 := C3b.out.cell 1
    have c50 := C5b.out.cell 0
    have c51 := C5b.out.cell 1
    clear hM t9 O5a O3a O5b O3b K38 x0 x1 x2 x3 x4 x5 x6 x7 x8 x9 x10 x11
    go_wp2_with fail
    refine hE2.mono ?_
    rintro e w10 ⟨rfl, k10⟩
    have O5c := OwnS.kept HO5b.out k10
    have O3c : Hid (OwnS w10 w2.heap.size (.slice so n sc) ls) := OwnS.kept HO3b.out k10
    have C3c : Hid (Cells w10 B3 36 #[.int .i64 D, .slice so n sc]) := C3b.out.kept k10
    have C5c : Hid (Cells w10 B5 36 #[.int .i64 D, .slice ro n rc]) := C5b.out.kept k10
    have KW10 : Hid (Kept WX w10) := Kept.trans KW9.out k10
    have hM5 := HMk.out hrl w10 WF.heap.size ro rc O5c
    have H3lt : Hid (∀ j, (Value.slice so n sc).ownBlock = some j → j < WF.heap.size) := fun j hj => by
      have h1 := L3.out j hj
      have h2 := K34.out.size
      have h3 := K4F.out.size
      omega
    clear c30 c31 c50 c51
    have c50 := C5c.out.cell 0
    have c51 := C5c.out.cell 1
    clear hE2 k10 O5c hr9
    go_wp2_with fail
    refine hM5.mono ?_
    rintro e w11 ⟨rfl, I5, G11⟩
    have O3d : Hid (OwnS w11 w2.heap.size (.slice so n sc) ls) := OwnS.other O3c.out G11 (fun k ek j hj => by have := (H5b.out k ek).1; have := H3lt.out j hj; omega)
    have C3d : Hid (Cells w11 B3 36 #[.int .i64 D, .slice so n sc]) := Cells.grown C3c.out G11 (fun ek => by have h1 := (H5b.out _ ek.symm).1; have h2 := C3.out.lt; have h3 := K34.out.size; have h4 := K4F.out.size; omega)
    have C5d : Hid (Cells w11 B5 36 #[.int .i64 D, .slice ro n rc]) := Cells.grown C5c.out G11 (fun ek => by have h1 := (H5b.out _ ek.symm).2; omega)
    have KW11 : Hid (Kept WX w11) := Kept.grownRow KW10.out G11 (fun k ek => by have := (H5b.out k ek).1; have := KF.out.size; omega)
    have HI5 : Hid _ := I5
    have hH := heldOutc_ok w11 D ro rc n I5 hrl
    clear hM5 I5 G11 c50 c51
    have c50 := C5d.out.cell 0
    have c51 := C5d.out.cell 1
    have hd9 : decide ((n : Int) + 1 < 0) = false := decide_eq_false (by omega)
    go_wp2_with fail
    refine hH.mono ?_
    rintro e w12 ⟨rfl, k12⟩
    have KW12 : Hid (Kept WX w12) := Kept.trans KW11.out k12
    have K12 : Hid (Kept w11 w12) := k12
    clear hH c50 c51 k12
    have a0 := (HB.out _ KW12.out).m0
    have a1 := (HB.out _ KW12.out).m1
    have a2 := (HB.out _ KW12.out).m2
    have a3 := (HB.out _ KW12.out).m3
    have a4 := (HB.out _ KW12.out).m4
    have a5 := (HB.out _ KW12.out).m5
    have a6 := (HB.out _ KW12.out).m6
    have a7 := (HB.out _ KW12.out).m7
    have a8 := (HB.out _ KW12.out).m8
    have a9 := (HB.out _ KW12.out).m9
    have a10 := (HB.out _ KW12.out).m10
    have a11 := (HB.out _ KW12.out).m11
    have hTo := HTo.out HLe.out _ KW12.out
    go_wp2_with fail
    refine hTo.mono ?_
    rintro e w13 ⟨q0, q1, q2, q3, q4, q5, q6, q7, rfl, O13, _, k13⟩
    have hIm := HIm.out HLe.out _ _ _ O13.all rfl
    clear hTo O13 a0 a1 a2 a3 a4 a5 a6 a7 a8 a9 a10 a11
    go_wp2_with fail
    refine hIm.mono ?_
    rintro e w14 ⟨to', tc, rfl, O14, k14'⟩
    obtain ⟨W14, hW14⟩ : ∃ x, w14.alloc (.cells #[.int .i64 D, .slice to' n tc] 36) = x := ⟨_, rfl⟩
    have k144 : Kept w14 W14 := hW14 ▸ Kept.alloc (Below.refl _ w14) _
    obtain ⟨B14, hB14⟩ : ∃ x, w14.heap.size = x := ⟨_, rfl⟩
    have C14 : Hid (Cells W14 B14 36 #[.int .i64 D, .slice to' n tc]) := hB14 ▸ hW14 ▸ Cells.new w14 36 #[.int .i64 D, .slice to' n tc]
    have k14 := k13.trans (k14'.trans k144)
    have K14 : Hid (Kept w11 W14) := Kept.trans K12.out k14
    have O14' := OwnS.kept O14 k144
    have O3e := OwnS.kept O3d.out K14.out
    have hE3 := HEqO.out hrl W14 to' so tc sc (HSt.out _ _ _ _ O14') (HSt.out _ _ _ _ O3e)
    have c30 := (C3d.out.kept K14.out).cell 0
    have c31 := (C3d.out.kept K14.out).cell 1
    have c50 := C14.out.cell 0
    have c51 := C14.out.cell 1
    clear hIm O14 k13 k14' O3e k144 O14'
    go_upto_region 25 with (fail)
    try simp only [hW14]
    try simp only [hB14]
    clear hW14 hB14
    go_wp2_with fail
    refine hE3.mono ?_
    rintro e w15 ⟨rfl, k15⟩
    have K15 : Hid (Kept w11 w15) := Kept.trans K14.out k15
    have hH := heldOutc_ok w15 D ro rc n (StA.kept HI5.out K15.out) hrl
    clear hE3 k14 k15 c30 c31 c50 c51
    have c50 := (C5d.out.kept K15.out).cell 0
    have c51 := (C5d.out.kept K15.out).cell 1
    go_wp2_with fail
    refine hH.mono ?_
    rintro e w16 ⟨rfl, k16⟩
    clear hH
    go_wp2_with fail
    go_ret
    exact ⟨rfl, Kept.trans HK0.out (Kept.trans KW11.out (Kept.trans K15.out k16))⟩)

set_option maxRecDepth 100000 in
theorem lifted (os : Os) (started : os.Started) (H : Type) (enc : TypeId × Value → H) :
    ReturnsInHanded {} Try.checked os 3 .any (Rows.fnExactToldSpec.pre6 enc Try.prog Try.f3 Rows.fnExactToldRow.domain false) (Rows.fnExactToldSpec.post enc Try.prog Try.f3 false true false false) := by
  refine returnsInHanded_of_change (C := Try.checked) own started (by kernel_rfl) Try.func3
    (ChangeSpec.witness6 (enc := enc) (C := Try.checked) false ⟨#[], #[.agg #[.slice none 0 0, .slice none 0 0, .slice none 0 0, .int .i64 0, .slice none 0 0, .slice none 0 0, .int .i64 0, .slice none 0 0, .slice none 0 0, .slice none 0 0, .bool false, .int .i64 0]], []⟩ 8 (by kernel_rfl) (by kernel_rfl) (by kernel_rfl) (by kernel_rfl)) ?_
  intro W base args ds gs before hval0 hW hcnd _
  have hval : ∀ (j : Nat) t v, Try.f3.params[j]? = some t → args[j]? = some v → Value.okWide Try.prog W .any base t v := hval0
  have hW' := hW
  obtain ⟨p, q, hA0, hV, rfl, hfz, hnd⟩ := hW
  have hA : DataW.TrodAll enc Try.prog W 0 (fun _ => true) true Try.f3.params.toList args.toList ds p := hA0
  rw [Try.params3] at hA hval
  obtain ⟨v0, vs0, d0, ds0, p0, q0, hargs0, rfl, rfl, h0, r0⟩ := trodAll_cons hA
  obtain ⟨rfl, rfl, rfl⟩ := trodAll_nil r0
  obtain rfl : args = #[v0] := by cases args; simp_all
  obtain ⟨rfl, rfl⟩ := trodVars_none hV
  clear hA0 hval0
  simp only [List.append_nil] at hW'
  have hlt0 : ∀ x ∈ p0, x.block < W.heap.size := fun x hx => by simpa using hW'.lt x (by simp [hx])
  obtain ⟨hh0, m0, rfl, hF0, hA0, hW0⟩ := open_machine (hval 0 33 v0 rfl rfl) h0
  refine (walk W hh0 m0 hF0 hA0 hW0).mono fun e W' ⟨he, hk⟩ => ?_
  subst he
  refine ⟨_, rfl, _, _, _, [], p0 ++ [], [], hW', ?_, ?_, rfl, hk.frame _, fun h => by cases h⟩
  · exact trodAll_cons_mk (shut_bool Try.underlying4 _) trodAll_mk0
  · exact (trodAll_cons_mk (Below.trod laid (by kernel_rfl) (of_decide_eq_true (by kernel_rfl)) h0 hk hlt0) trodAll_mk0)

theorem over : Rows.fnExactToldRow.holds Try.pinned (OpenSpec.ofChange Rows.fnExactToldSpec) :=
  OpenClaim.holds_of_wide 3 Try.f3 rfl rfl rfl rfl rfl rfl rfl ⟨rfl, rfl, rfl, rfl, rfl⟩ rfl rfl rfl rfl rfl (by kernel_rfl) Try.func3 (by kernel_rfl)
    (of_decide_eq_true (by kernel_rfl)) (by unfold Func.isWrapper; first | (rw [if_pos (by decide +kernel)]; kernel_rfl) | (rw [if_neg (by decide +kernel)]; exact ⟨rfl, rfl⟩))
    (fun os started H enc _ => lifted os started H enc)

theorem proved : Rows.FnExactToldSaid :=
  over
#print axioms proved
end Go.Proofs.Ytgempjjnfpmndaa.fnExactTold
