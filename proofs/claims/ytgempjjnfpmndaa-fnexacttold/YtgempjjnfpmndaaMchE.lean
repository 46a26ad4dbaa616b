/-
  What the laws do with machines: whether two are the same (chapter 17).
-/
import Derived.Test.YtgempjjnfpmndaaMchP
import Derived.Test.YtgempjjnfpmndaaUntE
import Derived.Test.YtgempjjnfpmndaaHelpQ
namespace Go.Proofs.Ytgempjjnfpmndaa
open Go.ChangeShapes Go.WideShapes Go.ChangeAt Go.RowKit
set_option linter.unusedSimpArgs false
set_option linter.unusedVariables false
set_option maxHeartbeats 8000000 in
set_option maxRecDepth 100000 in
theorem eqFrame_ok (w : World) (o a b : Int) :
    Calls Try.prog 43 #[.agg #[.int .i64 o, .int .i64 a, .int .i64 b], .agg #[.int .i64 o, .int .i64 a, .int .i64 b]] w fun e w' => e = .returned (.bool true) ∧ Kept w w' := by
  have h0 : (o != o) = false := by simp
  have h1 : (a != a) = false := by simp
  have h2 : (b != b) = false := by simp
  go_enter Try.func43, Try.ntmps43
  go_wp2_with fail
  go_ret
  exact ⟨rfl, (Kept.alloc (Below.refl _ w) _).alloc _⟩
set_option maxHeartbeats 8000000 in
set_option maxRecDepth 100000 in
theorem eqFrameS_ok (w : World) (ao bo : Option Addr) (ca cb : Nat) (ss : List Stp) (hA : StpsA w ao ss) (hB : StpsA w bo ss) (hl : ss.length ≤ 1048576) :
    Calls Try.prog 30 #[.slice ao ss.length ca, .slice bo ss.length cb] w fun e w' => e = .returned (.bool true) ∧ Kept w w' := by
  have HA : Hid _ := hA
  have HB : Hid _ := hB
  clear hA hB
  go_enter Try.func30, Try.ntmps30
  go_wp2_with fail
  go_loopw [5] (fun i wr => ∃ k : Nat, i = .int .i64 k ∧ k ≤ ss.length ∧ Hid (Kept w wr)) (fun i _ => ss.length - (intOf i).toNat)
  case atStart => exact ⟨0, rfl, Nat.zero_le _, Below.refl _ _⟩
  case round =>
    obtain ⟨k, rfl, hk, HK⟩ := hrel
    by_cases hlt : k < ss.length
    · obtain ⟨t, ht⟩ : ∃ t, ss[k]? = some t := ⟨_, List.getElem?_eq_getElem hlt⟩
      have kd : Kept w wr.drew := Below.drew HK.out
      obtain ⟨b, off, rfl, h0, h1, h2⟩ := (StpsA.kept HA.out kd) k t ht
      obtain ⟨b', off', rfl, h0', h1', h2'⟩ := (StpsA.kept HB.out kd) k t ht
      have hC := eqFrame_ok wr.drew t.1 t.2.1 t.2.2
      have q1 : (k : Int) < (ss.length : Int) := by omega
      have q0 : (0 : Int) ≤ (k : Int) := by omega
      have HD : Hid _ := kd
      clear ht kd
      go_wp2_with fail
      go_region_with (go_at_call 43; refine hC.mono ?_; rintro e wx ⟨rfl, hkx⟩)
      all_goals (
        go_wp2_with fail
        go_roundw
        case rel => exact ⟨k + 1, by go_num, by omega, Kept.trans HD.out hkx⟩
        case measure => simp [intOf]; omega)
    · have q1 : ¬ (k : Int) < (ss.length : Int) := by omega
      go_wp2_with fail
      go_ret
      exact ⟨rfl, HK.out⟩
set_option maxHeartbeats 16000000 in
set_option maxRecDepth 100000 in
theorem eqMachine_ok (w : World) (h h' : MchH) (m : Mch) (hA : MchA w h m) (hB : MchA w h' m) (hL : MchLe m) :
    Calls Try.prog 9 #[.agg (mchC h m), .agg (mchC h' m)] w fun e w' => e = .returned (.bool true) ∧ Kept w w' := by
  obtain ⟨W0, hW0⟩ : ∃ W0, (w.alloc (.cells (mchC h m) 45)).alloc (.cells (mchC h' m) 45) = W0 := ⟨_, rfl⟩
  have X0 : Hid (Cells W0 w.heap.size 45 (mchC h m)) := hW0 ▸ (Cells.new w 45 (mchC h m)).alloc _
  have X1 : Hid (Cells W0 (w.heap.size + 1) 45 (mchC h' m)) := by
    have y := Cells.new (w.alloc (.cells (mchC h m) 45)) 45 (mchC h' m)
    rw [hW0] at y
    simp only [World.size_alloc] at y
    exact y
  have HK : Hid (Kept w W0) := hW0 ▸ (Kept.alloc (Below.refl _ _) _).alloc _
  have HA : Hid _ := hA
  have HB : Hid _ := hB
  have HL : Hid _ := hL
  have i1 : (m.ov != m.ov) = false := by simp
  have i2 : (m.cd != m.cd) = false := by simp
  clear hA hB hL
  go_enter Try.func9, Try.ntmps9
  go_upto_region 1 with (fail)
  try simp only [hW0]
  clear hW0
  have a0 := Cells.m0 X0.out
  have b0 := Cells.m0 X1.out
  have a1 := Cells.m1 X0.out
  have b1 := Cells.m1 X1.out
  have hC := eqUnit_ok W0 h.ca h'.ca h.ta h'.ta h.cc h'.cc h.tc h'.tc m.cs m.ts (MchA.kept HA.out HK.out).c (MchA.kept HB.out HK.out).c (MchA.kept HA.out HK.out).t (MchA.kept HB.out HK.out).t HL.out.c HL.out.i HL.out.t
  go_wp2_with fail
  refine hC.mono ?_
  rintro e W1 ⟨rfl, hk⟩
  replace X0 : Hid (Cells W1 w.heap.size 45 (mchC h m)) := Cells.kept X0.out hk
  replace X1 : Hid (Cells W1 (w.heap.size + 1) 45 (mchC h' m)) := Cells.kept X1.out hk
  replace HK : Hid (Kept w W1) := Kept.trans HK.out hk
  clear hC hk a0 b0 a1 b1
  have a2 := Cells.m2 X0.out
  have b2 := Cells.m2 X1.out
  have hC := eqSlab_ok W1 h.sa h'.sa h.sc h'.sc m.zs (MchA.kept HA.out HK.out).z (MchA.kept HB.out HK.out).z (by have := HL.out.z; omega)
  go_wp2_with fail
  refine hC.mono ?_
  rintro e W2 ⟨rfl, hk⟩
  replace X0 : Hid (Cells W2 w.heap.size 45 (mchC h m)) := Cells.kept X0.out hk
  replace X1 : Hid (Cells W2 (w.heap.size + 1) 45 (mchC h' m)) := Cells.kept X1.out hk
  replace HK : Hid (Kept w W2) := Kept.trans HK.out hk
  clear hC hk a2 b2
  have a3 := Cells.m3 X0.out
  have b3 := Cells.m3 X1.out
  have a4 := Cells.m4 X0.out
  have b4 := Cells.m4 X1.out
  have a5 := Cells.m5 X0.out
  have b5 := Cells.m5 X1.out
  have a6 := Cells.m6 X0.out
  have b6 := Cells.m6 X1.out
  have hC := eqMarker_ok W2 h.ga h.ba h'.ga h'.ba h.gc h.bc h'.gc h'.bc m.ph m.at' m.gs m.bs (MchA.kept HA.out HK.out).g (MchA.kept HB.out HK.out).g (MchA.kept HA.out HK.out).b (MchA.kept HB.out HK.out).b (by have := HL.out.g; omega) (by have := HL.out.b; omega)
  go_wp2_with fail
  refine hC.mono ?_
  rintro e W3 ⟨rfl, hk⟩
  replace X0 : Hid (Cells W3 w.heap.size 45 (mchC h m)) := Cells.kept X0.out hk
  replace X1 : Hid (Cells W3 (w.heap.size + 1) 45 (mchC h' m)) := Cells.kept X1.out hk
  replace HK : Hid (Kept w W3) := Kept.trans HK.out hk
  clear hC hk a3 b3 a4 b4 a5 b5 a6 b6
  have a7 := Cells.m7 X0.out
  have b7 := Cells.m7 X1.out
  have hC := eqFrameS_ok W3 h.fa h'.fa h.fc h'.fc m.fs (MchA.kept HA.out HK.out).f (MchA.kept HB.out HK.out).f HL.out.f
  go_wp2_with fail
  refine hC.mono ?_
  rintro e W4 ⟨rfl, hk⟩
  replace X0 : Hid (Cells W4 w.heap.size 45 (mchC h m)) := Cells.kept X0.out hk
  replace X1 : Hid (Cells W4 (w.heap.size + 1) 45 (mchC h' m)) := Cells.kept X1.out hk
  replace HK : Hid (Kept w W4) := Kept.trans HK.out hk
  clear hC hk a7 b7
  have a8 := Cells.m8 X0.out
  have b8 := Cells.m8 X1.out
  have hC := eqIntS_ok W4 h.ka h'.ka h.kc h'.kc m.ks (MchA.kept HA.out HK.out).k (MchA.kept HB.out HK.out).k (by have := HL.out.k; omega)
  go_wp2_with fail
  refine hC.mono ?_
  rintro e W5 ⟨rfl, hk⟩
  replace X0 : Hid (Cells W5 w.heap.size 45 (mchC h m)) := Cells.kept X0.out hk
  replace X1 : Hid (Cells W5 (w.heap.size + 1) 45 (mchC h' m)) := Cells.kept X1.out hk
  replace HK : Hid (Kept w W5) := Kept.trans HK.out hk
  clear hC hk a8 b8
  have a9 := Cells.m9 X0.out
  have b9 := Cells.m9 X1.out
  have hC := eqStrS_ok W5 h.la h'.la h.lc h'.lc m.ls (MchA.kept HA.out HK.out).l (MchA.kept HB.out HK.out).l HL.out.l'
  go_wp2_with fail
  refine hC.mono ?_
  rintro e W6 ⟨rfl, hk⟩
  replace X0 : Hid (Cells W6 w.heap.size 45 (mchC h m)) := Cells.kept X0.out hk
  replace X1 : Hid (Cells W6 (w.heap.size + 1) 45 (mchC h' m)) := Cells.kept X1.out hk
  replace HK : Hid (Kept w W6) := Kept.trans HK.out hk
  clear hC hk a9 b9
  have a10 := Cells.m10 X0.out
  have b10 := Cells.m10 X1.out
  have a11 := Cells.m11 X0.out
  have b11 := Cells.m11 X1.out
  go_wp2_with fail
  go_ret
  exact ⟨rfl, HK.out⟩
end Go.Proofs.Ytgempjjnfpmndaa
