/-
  The law FnExactRoots is proved: at every machine impl.Roots answers as its model, writes nothing into it, and its answer owns its memory.
-/
import Derived.Test.YtieapcobidejpaaRows
import Derived.Test.YtieapcobidejpaaFrameR
import Derived.Test.YtieapcobidejpaaMchB
import Derived.Test.YtieapcobidejpaaMchE
import Derived.Test.YtieapcobidejpaaMchY
import Derived.Test.YtieapcobidejpaaMchO
import Derived.Test.YtieapcobidejpaaMchR
import Derived.Deep.RegionWith
namespace Go.Proofs.Ytieapcobidejpaa.fnExactRoots
open Go.ChangeShapes Go.WideShapes Go.ChangeAt Go.RowKit
set_option linter.unusedVariables false

theorem own : ownKnob Try.prog.godebug = none := by kernel_rfl

theorem OwnL.tr {lo hi : Nat} {W W' : World} {base : Nat} {v : Value} {zs : List Int} (h : OwnL W base v zs) (k : Tr lo hi W W') (hne : ∀ j, v.ownBlock = some j → ¬ (lo ≤ j ∧ j < hi)) : OwnL W' base v zs := by
  refine ⟨h.1, h.2.1, ?_⟩
  rcases h.2.2 with h2 | ⟨g, cap, cur, rfl, hb, hg, r⟩
  · exact .inl h2
  · exact .inr ⟨g, cap, cur, rfl, hb, (k.block g (Array.getElem?_eq_some_iff.1 hg).1 (hne g rfl)).trans hg, r⟩
theorem OwnL.keptR {W W' : World} {base : Nat} {v : Value} {zs : List Int} (h : OwnL W base v zs) (hk : Kept W W') : OwnL W' base v zs := OwnL.kept (row := none) h hk.grown (fun k e => by cases e)
theorem OwnL.intsR {W : World} {base c : Nat} {ao : Option Addr} {l : List Int} (h : OwnL W base (.slice ao l.length c) l) : Ints W ao l := by
  obtain ⟨ao', cap, e, hI⟩ := h.ints
  cases e
  exact hI
set_option maxHeartbeats 16000000 in
set_option maxRecDepth 100000 in
theorem walk (w : World) (hh0 : MchH) (m0 : Mch) (hF0 : MchFit m0) (hA0 : MchA w hh0 m0) (hW0 : MchWf hh0 m0) :
    Calls Try.prog 3 #[.agg (mchC hh0 m0)] w fun e w' => e = .returned (.bool true) ∧ Kept w w' := by
  obtain ⟨WX, hWX⟩ : ∃ x, w.alloc (.cells (mchC hh0 m0) 33) = x := ⟨_, rfl⟩
  have HB : Hid (∀ u, Kept WX u → Cells u w.heap.size 33 (mchC hh0 m0)) := fun u hu => (hWX ▸ Cells.new w 33 (mchC hh0 m0) : Cells WX _ _ _).kept hu
  have k0 : Kept w WX := hWX ▸ Kept.alloc (Below.refl _ _) _
  have HK0 : Hid (Kept w WX) := k0
  have hSz := szMachine_ok WX hh0 m0 (hA0.kept k0) hF0
  have HTo : Hid (MchLe m0 → ∀ u, Kept WX u → Calls Try.prog 6 #[.agg (mchC hh0 m0)] u fun e w' => ∃ g0 g1 g2 g3 g4 g5 g6 g7, e = .returned (.agg (mchC (ownH m0 g0 g1 g2 g3 g4 g5 g6 g7) m0)) ∧ MchO w' u.heap.size g0 g1 g2 g3 g4 g5 g6 g7 m0 ∧ MchW w' u.heap.size w'.heap.size g0 g1 g2 g3 g4 g5 g6 g7 m0 ∧ Kept u w') := fun hL u hu => toMachine_x u hh0 m0 (hA0.kept (k0.trans hu)) hL
  obtain ⟨rs, hrs⟩ : ∃ rs, rootsM m0 = rs := ⟨_, rfl⟩
  have HSp : Hid (MchLe m0 → ∀ u h', MchA u h' m0 → h'.ka ≠ none → Calls Try.prog 5 #[.agg (mchC h' m0)] u fun e w' => ∃ v, e = .returned v ∧ OwnL w' u.heap.size v rs ∧ Kept u w') := fun hL u h' h1 h3 => hrs ▸ spec_Roots_ok u h' m0 h1.k h1.f hL.k hL.f hW0.f h3
  have HIm : Hid (MchLe m0 → ∀ u h', MchA u h' m0 → Calls Try.prog 7 #[.agg (mchC h' m0)] u fun e w' => ∃ v, e = .returned v ∧ OwnL w' u.heap.size v rs ∧ Kept u w') := fun hL u h' h1 => hrs ▸ impl_Roots_ok u h' m0 h1.k h1.f hL.k hL.f hW0.f
  have HRl : Hid (MchLe m0 → rs.length ≤ 1048576) := fun hL => by
    rw [← hrs]
    have := hL.kf
    simp [rootsM]
    omega
  have a0 := (HB.out _ (Below.refl _ _)).m0
  have a1 := (HB.out _ (Below.refl _ _)).m1
  have a2 := (HB.out _ (Below.refl _ _)).m2
  have a3 := (HB.out _ (Below.refl _ _)).m3
  have a4 := (HB.out _ (Below.refl _ _)).m4
  have a5 := (HB.out _ (Below.refl _ _)).m5
  have a6 := (HB.out _ (Below.refl _ _)).m6
  have a7 := (HB.out _ (Below.refl _ _)).m7
  have a8 := (HB.out _ (Below.refl _ _)).m8
  have a9 := (HB.out _ (Below.refl _ _)).m9
  have a10 := (HB.out _ (Below.refl _ _)).m10
  have a11 := (HB.out _ (Below.refl _ _)).m11
  clear hrs hA0 hF0 hW0 k0
  go_enter Try.func3, Try.ntmps3
  go_upto_region 2 with (fail)
  try simp only [hWX]
  clear hWX
  go_wp2_with fail
  refine hSz.mono ?_
  rintro e w1 ⟨⟨r, rfl, hr⟩, k1⟩
  clear a0 a1 a2 a3 a4 a5 a6 a7 a8 a9 a10 a11
  rcases hr with ⟨hd, hLe⟩ | rfl
  rotate_left
  · go_wp2_with fail
    go_ret
    exact ⟨rfl, Kept.trans HK0.out k1⟩
  have HLe : Hid _ := hLe
  have hrl := HRl.out hLe
  have a0 := (HB.out _ k1).m0
  have a1 := (HB.out _ k1).m1
  have a2 := (HB.out _ k1).m2
  have a3 := (HB.out _ k1).m3
  have a4 := (HB.out _ k1).m4
  have a5 := (HB.out _ k1).m5
  have a6 := (HB.out _ k1).m6
  have a7 := (HB.out _ k1).m7
  have a8 := (HB.out _ k1).m8
  have a9 := (HB.out _ k1).m9
  have a10 := (HB.out _ k1).m10
  have a11 := (HB.out _ k1).m11
  have hTo := HTo.out HLe.out _ k1
  clear hLe hSz
  go_wp2_with fail
  refine hTo.mono ?_
  rintro e w2 ⟨p0, p1, p2, p3, p4, p5, p6, p7, rfl, O2, _, k2'⟩
  have hSp := HSp.out HLe.out _ _ O2.all (fun h => by cases h)
  have k2 := k1.trans k2'
  clear hTo k2' O2 k1 a0 a1 a2 a3 a4 a5 a6 a7 a8 a9 a10 a11
  go_wp2_with fail
  refine hSp.mono ?_
  rintro e w3 ⟨v3, rfl, O3, k3'⟩
  have k3 := k2.trans k3'
  obtain ⟨so, sc, rfl, _⟩ := O3.ints
  have HO3 : Hid (OwnL w3 w2.heap.size (.slice so rs.length sc) rs) := O3
  clear hSp k2 k3' O3
  have a0 := (HB.out _ k3).m0
  have a1 := (HB.out _ k3).m1
  have a2 := (HB.out _ k3).m2
  have a3 := (HB.out _ k3).m3
  have a4 := (HB.out _ k3).m4
  have a5 := (HB.out _ k3).m5
  have a6 := (HB.out _ k3).m6
  have a7 := (HB.out _ k3).m7
  have a8 := (HB.out _ k3).m8
  have a9 := (HB.out _ k3).m9
  have a10 := (HB.out _ k3).m10
  have a11 := (HB.out _ k3).m11
  have hTo := HTo.out HLe.out _ k3
  go_wp2_with fail
  refine hTo.mono ?_
  rintro e w4 ⟨g0, g1, g2, g3, g4, g5, g6, g7, rfl, O4, M4, k4'⟩
  have k4 := k3.trans k4'
  have K34 : Hid (Kept w3 w4) := k4'
  have S3 : Hid (WX.heap.size ≤ w3.heap.size) := k3.size
  clear hTo k3 k4' a0 a1 a2 a3 a4 a5 a6 a7 a8 a9 a10 a11
  obtain ⟨h4, hh4⟩ : ∃ x, ownH m0 g0 g1 g2 g3 g4 g5 g6 g7 = x := ⟨_, rfl⟩
  have HO4 : Hid (∀ u, Kept w4 u → MchA u h4 m0) := fun u hu => hh4 ▸ (MchO.all O4).kept hu
  have HM : Hid (∀ u, Kept w4 u → Calls Try.prog 10 #[.agg (mchC h4 m0), .int .i64 1] u fun e w' => (∃ r : Int, e = .returned (.int .i64 r) ∧ decide (r < 0) = false) ∧ Tr w3.heap.size w4.heap.size u w') := fun u hu => hh4 ▸ markMachine_w u w3.heap.size w4.heap.size g0 g1 g2 g3 g4 g5 g6 g7 m0 (M4.tr (Tr.of hu)) HLe.out hu.size
  rw [hh4]
  clear hh4 O4 M4
  obtain ⟨WF, hWF⟩ : ∃ x, w4.alloc (.cells (mchC h4 m0) 43) = x := ⟨_, rfl⟩
  have XC : Cells WF w4.heap.size 43 (mchC h4 m0) := hWF ▸ Cells.new w4 43 (mchC h4 m0)
  have XB : Hid (∀ u, Kept WF u → Cells u w4.heap.size 43 (mchC h4 m0)) := fun u hu => XC.kept hu
  have kF : Kept w4 WF := hWF ▸ Kept.alloc (Below.refl _ _) _
  have SF : Hid (w4.heap.size < WF.heap.size) := XC.lt
  have K4F : Hid (Kept w4 WF) := kF
  have KF : Hid (Kept WX WF) := k4.trans kF
  have hIm := HIm.out HLe.out _ _ (HO4.out _ kF)
  have x0 := (XB.out _ (Below.refl _ _)).m0
  have x1 := (XB.out _ (Below.refl _ _)).m1
  have x2 := (XB.out _ (Below.refl _ _)).m2
  have x3 := (XB.out _ (Below.refl _ _)).m3
  have x4 := (XB.out _ (Below.refl _ _)).m4
  have x5 := (XB.out _ (Below.refl _ _)).m5
  have x6 := (XB.out _ (Below.refl _ _)).m6
  have x7 := (XB.out _ (Below.refl _ _)).m7
  have x8 := (XB.out _ (Below.refl _ _)).m8
  have x9 := (XB.out _ (Below.refl _ _)).m9
  have x10 := (XB.out _ (Below.refl _ _)).m10
  have x11 := (XB.out _ (Below.refl _ _)).m11
  clear kF k4 XC
  go_upto_region 7 with (fail)
  try simp only [hWF]
  clear hWF
  go_wp2_with fail
  refine hIm.mono ?_
  rintro e w5 ⟨v5, rfl, O5, k5⟩
  obtain ⟨ro, rc, rfl, _⟩ := O5.ints
  have HO5 : Hid (OwnL w5 WF.heap.size (.slice ro rs.length rc) rs) := O5
  have O3' := OwnL.keptR HO3.out (Kept.trans K34.out (Kept.trans K4F.out k5))
  have hE1 := eqIntS_ok w5 ro so rc sc rs (OwnL.intsR O5) (OwnL.intsR O3') (by omega)
  have K5 : Hid (Kept WF w5) := k5
  clear hIm O5 O3' k5 x0 x1 x2 x3 x4 x5 x6 x7 x8 x9 x10 x11
  go_wp2_with fail
  refine hE1.mono ?_
  rintro e w6 ⟨rfl, k6⟩
  have kd : Kept w6 w6.drew := (Below.refl _ w6).drew
  have K6 : Hid (Kept WF w6.drew) := Kept.trans K5.out (k6.trans kd)
  have K56 : Hid (Kept w5 w6.drew) := k6.trans kd
  have KW : Hid (Kept WX w6.drew) := KF.out.trans K6.out
  have hTo := HTo.out HLe.out _ KW.out
  have HEq : Hid (∀ u h', Kept w6.drew u → MchA u h' m0 → Calls Try.prog 9 #[.agg (mchC h4 m0), .agg (mchC h' m0)] u fun e w' => e = .returned (.bool true) ∧ Kept u w') := fun u h' hu h1 => eqMachine_ok u h4 h' m0 (HO4.out _ (Kept.trans K4F.out (Kept.trans K6.out hu))) h1 HLe.out
  obtain ⟨B4, hB4⟩ : ∃ x, w4.heap.size = x := ⟨_, rfl⟩
  rw [hB4] at XB HM SF
  have a0 := (HB.out _ KW.out).m0
  have a1 := (HB.out _ KW.out).m1
  have a2 := (HB.out _ KW.out).m2
  have a3 := (HB.out _ KW.out).m3
  have a4 := (HB.out _ KW.out).m4
  have a5 := (HB.out _ KW.out).m5
  have a6 := (HB.out _ KW.out).m6
  have a7 := (HB.out _ KW.out).m7
  have a8 := (HB.out _ KW.out).m8
  have a9 := (HB.out _ KW.out).m9
  have a10 := (HB.out _ KW.out).m10
  have a11 := (HB.out _ KW.out).m11
  have x0 := (XB.out _ K6.out).m0
  have x1 := (XB.out _ K6.out).m1
  have x2 := (XB.out _ K6.out).m2
  have x3 := (XB.out _ K6.out).m3
  have x4 := (XB.out _ K6.out).m4
  have x5 := (XB.out _ K6.out).m5
  have x6 := (XB.out _ K6.out).m6
  have x7 := (XB.out _ K6.out).m7
  have x8 := (XB.out _ K6.out).m8
  have x9 := (XB.out _ K6.out).m9
  have x10 := (XB.out _ K6.out).m10
  have x11 := (XB.out _ K6.out).m11
  clear hE1 k6 kd
  go_upto_region 10 with (fail)
  try simp only [hB4]
  clear hB4
  go_region_with (first
    | (have g := kq; go_at_call 9; refine (HEq.out _ _ kq O7.all).mono ?_; rintro e w8 ⟨rfl, kq8⟩)
    | (go_at_call 6; refine hTo.mono ?_; rintro e w7 ⟨q0, q1, q2, q3, q4, q5, q6, q7, rfl, O7, _, kq⟩; have x0 := (XB.out _ (Kept.trans K6.out kq)).m0; have x1 := (XB.out _ (Kept.trans K6.out kq)).m1; have x2 := (XB.out _ (Kept.trans K6.out kq)).m2; have x3 := (XB.out _ (Kept.trans K6.out kq)).m3; have x4 := (XB.out _ (Kept.trans K6.out kq)).m4; have x5 := (XB.out _ (Kept.trans K6.out kq)).m5; have x6 := (XB.out _ (Kept.trans K6.out kq)).m6; have x7 := (XB.out _ (Kept.trans K6.out kq)).m7; have x8 := (XB.out _ (Kept.trans K6.out kq)).m8; have x9 := (XB.out _ (Kept.trans K6.out kq)).m9; have x10 := (XB.out _ (Kept.trans K6.out kq)).m10; have x11 := (XB.out _ (Kept.trans K6.out kq)).m11))
  all_goals (
    have K8 : Hid (Kept w6.drew w8) := kq.trans kq8
    have KF8 : Hid (Kept WF w8) := Kept.trans K6.out K8.out
    clear kq kq8 O7 hTo a0 a1 a2 a3 a4 a5 a6 a7 a8 a9 a10 a11 x0 x1 x2 x3 x4 x5 x6 x7 x8 x9 x10 x11
    have x0 := (XB.out _ KF8.out).m0
    have x1 := (XB.out _ KF8.out).m1
    have x2 := (XB.out _ KF8.out).m2
    have x3 := (XB.out _ KF8.out).m3
    have x4 := (XB.out _ KF8.out).m4
    have x5 := (XB.out _ KF8.out).m5
    have x6 := (XB.out _ KF8.out).m6
    have x7 := (XB.out _ KF8.out).m7
    have x8 := (XB.out _ KF8.out).m8
    have x9 := (XB.out _ KF8.out).m9
    have x10 := (XB.out _ KF8.out).m10
    have x11 := (XB.out _ KF8.out).m11
    have hM := HM.out _ (Kept.trans K4F.out KF8.out)
    go_wp2_with fail
    refine hM.mono ?_
    rintro e w9 ⟨⟨r9, rfl, hr9⟩, t9⟩
    have O5a := OwnL.keptR HO5.out (Kept.trans K56.out K8.out)
    have O3a := OwnL.keptR HO3.out (Kept.trans K34.out (Kept.trans K4F.out KF8.out))
    have O5b : OwnL w9 WF.heap.size (.slice ro rs.length rc) rs := OwnL.tr O5a t9 (fun j hj => by have := (HO5.out.2.lt j hj).1; have := SF.out; omega)
    have O3b : OwnL w9 w2.heap.size (.slice so rs.length sc) rs := OwnL.tr O3a t9 (fun j hj => by have := (HO3.out.2.lt j hj).2; omega)
    have KW9 : Hid (Kept WX w9) := Tr.kept (Kept.trans KF.out KF8.out) t9 S3.out
    have hE2 := eqIntS_ok w9 ro so rc sc rs (OwnL.intsR O5b) (OwnL.intsR O3b) (by omega)
    have HO5b : Hid _ := O5b
    have HO3b : Hid _ := O3b
    clear hM t9 O5a O3a O5b O3b x0 x1 x2 x3 x4 x5 x6 x7 x8 x9 x10 x11
    go_wp2_with fail
    refine hE2.mono ?_
    rintro e w10 ⟨rfl, k10⟩
    have O5c := OwnL.keptR HO5b.out k10
    have O3c : Hid (OwnL w10 w2.heap.size (.slice so rs.length sc) rs) := OwnL.keptR HO3b.out k10
    have KW10 : Hid (Kept WX w10) := Kept.trans KW9.out k10
    have hM5 := markIntS_ok w10 WF.heap.size _ rs O5c hrl
    have H5lt : Hid (∀ j, (Value.slice ro rs.length rc).ownBlock = some j → WF.heap.size ≤ j) := fun j hj => (O5c.2.lt j hj).1
    have H3lt : Hid (∀ j, (Value.slice so rs.length sc).ownBlock = some j → j < WF.heap.size) := fun j hj => by
      have h1 := (HO3.out.2.lt j hj).2
      have h2 := K34.out.size
      have h3 := K4F.out.size
      omega
    clear hE2 k10 O5c hr9
    go_wp2_with fail
    refine hM5.mono ?_
    rintro e w11 ⟨rfl, ⟨ao, cap, e5, I5⟩, G11⟩
    have O3d : Hid (OwnL w11 w2.heap.size (.slice so rs.length sc) rs) := OwnL.kept O3c.out G11 (fun k ek j hj => by have := H5lt.out k ek; have := H3lt.out j hj; omega)
    have KW11 : Hid (Kept WX w11) := Kept.grownRow KW10.out G11 (fun k ek => by have := H5lt.out k ek; have := KF.out.size; omega)
    obtain ⟨rfl, rfl⟩ : ao = ro ∧ cap = rc := by cases e5; exact ⟨rfl, rfl⟩
    have hH := heldIntS_ok w11 ao cap rs.length I5 hrl
    have HI5 : Hid _ := I5
    clear hM5 e5 I5 G11
    go_wp2_with fail
    refine hH.mono ?_
    rintro e w12 ⟨rfl, rfl⟩
    clear hH
    have a0 := (HB.out _ KW11.out).m0
    have a1 := (HB.out _ KW11.out).m1
    have a2 := (HB.out _ KW11.out).m2
    have a3 := (HB.out _ KW11.out).m3
    have a4 := (HB.out _ KW11.out).m4
    have a5 := (HB.out _ KW11.out).m5
    have a6 := (HB.out _ KW11.out).m6
    have a7 := (HB.out _ KW11.out).m7
    have a8 := (HB.out _ KW11.out).m8
    have a9 := (HB.out _ KW11.out).m9
    have a10 := (HB.out _ KW11.out).m10
    have a11 := (HB.out _ KW11.out).m11
    have hTo := HTo.out HLe.out _ KW11.out
    go_wp2_with fail
    refine hTo.mono ?_
    rintro e w13 ⟨q0, q1, q2, q3, q4, q5, q6, q7, rfl, O13, _, k13⟩
    have hIm := HIm.out HLe.out _ _ O13.all
    clear hTo O13 a0 a1 a2 a3 a4 a5 a6 a7 a8 a9 a10 a11
    go_wp2_with fail
    refine hIm.mono ?_
    rintro e w14 ⟨v14, rfl, O14, k14'⟩
    have k14 := k13.trans k14'
    obtain ⟨to', tc, rfl, I14⟩ := O14.ints
    have O3e := OwnL.keptR O3d.out k14
    have hE3 := eqIntS_ok w14 to' so tc sc rs I14 (OwnL.intsR O3e) (by omega)
    clear hIm O14 k13 k14' I14 O3e
    go_wp2_with fail
    refine hE3.mono ?_
    rintro e w15 ⟨rfl, k15⟩
    have K15 : Hid _ := k14.trans k15
    have hH := heldIntS_ok w15 ao cap rs.length (Ints.kept HI5.out (k14.trans k15)) hrl
    clear hE3 k14 k15
    go_wp2_with fail
    refine hH.mono ?_
    rintro e w16 ⟨rfl, rfl⟩
    clear hH
    go_wp2_with fail
    go_ret
    exact ⟨rfl, Kept.trans HK0.out (Kept.trans KW11.out K15.out)⟩)

set_option maxRecDepth 100000 in
theorem lifted (os : Os) (started : os.Started) (H : Type) (enc : TypeId × Value → H) :
    ReturnsInHanded {} Try.checked os 3 .any (Rows.fnExactRootsSpec.pre6 enc Try.prog Try.f3 Rows.fnExactRootsRow.domain false) (Rows.fnExactRootsSpec.post enc Try.prog Try.f3 false true false false) := by
  refine returnsInHanded_of_change (C := Try.checked) own started (by kernel_rfl) Try.func3
    (ChangeSpec.witness6 (enc := enc) (C := Try.checked) false ⟨#[], #[.agg #[.slice none 0 0, .slice none 0 0, .slice none 0 0, .int .i64 0, .slice none 0 0, .slice none 0 0, .int .i64 0, .slice none 0 0, .slice none 0 0, .slice none 0 0, .bool false, .int .i64 0]], []⟩ 8 (by kernel_rfl) (by kernel_rfl) (by kernel_rfl) (by kernel_rfl)) ?_
  intro W base args ds gs before hval0 hW hcnd _
  have hval : ∀ (j : Nat) t v, Try.f3.params[j]? = some t → args[j]? = some v → Value.okWide Try.prog W .any base t v := hval0
  have hW' := hW
  obtain ⟨p, q, hA0, hV, rfl, hfz, hnd⟩ := hW
  have hA : DataW.TrodAll enc Try.prog W 0 (fun _ => true) true Try.f3.params.toList args.toList ds p := hA0
  rw [Try.params3] at hA hval
  obtain ⟨v0, vs0, d0, ds0, p0, q0, hargs0, rfl, rfl, h0, r0⟩ := trodAll_cons hA
  obtain ⟨rfl, rfl, rfl⟩ := trodAll_nil r0
  obtain rfl : args = #[v0] := by cases args; simp_all
  obtain ⟨rfl, rfl⟩ := trodVars_none hV
  clear hA0 hval0
  simp only [List.append_nil] at hW'
  have hlt0 : ∀ x ∈ p0, x.block < W.heap.size := fun x hx => by simpa using hW'.lt x (by simp [hx])
  obtain ⟨hh0, m0, rfl, hF0, hA0, hW0⟩ := open_machine (hval 0 33 v0 rfl rfl) h0
  refine (walk W hh0 m0 hF0 hA0 hW0).mono fun e W' ⟨he, hk⟩ => ?_
  subst he
  refine ⟨_, rfl, _, _, _, [], p0 ++ [], [], hW', ?_, ?_, rfl, hk.frame _, fun h => by cases h⟩
  · exact trodAll_cons_mk (shut_bool Try.underlying4 _) trodAll_mk0
  · exact (trodAll_cons_mk (Below.trod laid (by kernel_rfl) (of_decide_eq_true (by kernel_rfl)) h0 hk hlt0) trodAll_mk0)

theorem over : Rows.fnExactRootsRow.holds Try.pinned (OpenSpec.ofChange Rows.fnExactRootsSpec) :=
  OpenClaim.holds_of_wide 3 Try.f3 rfl rfl rfl rfl rfl rfl rfl ⟨rfl, rfl, rfl, rfl, rfl⟩ rfl rfl rfl rfl rfl (by kernel_rfl) Try.func3 (by kernel_rfl)
    (of_decide_eq_true (by kernel_rfl)) (by unfold Func.isWrapper; first | (rw [if_pos (by decide +kernel)]; kernel_rfl) | (rw [if_neg (by decide +kernel)]; exact ⟨rfl, rfl⟩))
    (fun os started H enc _ => lifted os started H enc)

theorem proved : Rows.FnExactRootsSaid :=
  over
#print axioms proved
end Go.Proofs.Ytieapcobidejpaa.fnExactRoots
