/-
  Whether a machine is right (chapter 17): impl.MachineOk.
  The roots of a machine that sweeps (chapter 17): spec.l17Black.
  Whether a machine is right (chapter 17): spec.MachineOk.
  Whether a machine is sound (chapter 18): impl.Sound, spec.Sound exactly.
-/
import Derived.Deep.RegionWith
import Derived.Deep.CutRange
import Derived.Test.YtgempjjnfpmndaaGreatDoorGrpMf
import Derived.Test.YtgempjjnfpmndaaGreatDoorGrpMu
import Derived.Test.YtgempjjnfpmndaaGreatDoorZMrkJ
import Derived.Test.YtgempjjnfpmndaaGreatDoorGrpUh
import Derived.Test.YtgempjjnfpmndaaGreatDoorGrpMr
import Derived.Test.YtgempjjnfpmndaaGreatDoorZMrkK
namespace Go.Proofs.YtgempjjnfpmndaaGreatDoor
open Go.RowKit
attribute [local go_sem] Plain.and7
set_option linter.unusedSimpArgs false
set_option linter.unusedVariables false
theorem machR_head {m : Mch} (h : headM m = false) : machR m = false := by simp [machR, h]
theorem rootsM_len (m : Mch) : (rootsM m).length = m.ks.length + m.fs.length := by simp [rootsM]
theorem markR_slab {zs : List Int} {ph : Int} {gs bs : List Int} {at' : Int} (h : markR zs ph gs bs at' = true) : slabOk zs = true := by
  cases hs : slabOk zs with
  | true => rfl
  | false => rw [markR, hs] at h; simp at h
set_option maxHeartbeats 16000000 in
set_option maxRecDepth 100000 in
theorem impl_MachineOk_ok (w : World) (h : MchH) (m : Mch) (hA : MchA w h m) (hL : MchLe m) (hW : MchWf h m) (hgn : h.ga = none → h.gc = 0) (hFm : Forms w) :
    Calls Tryz.prog 35 #[.agg (mchC h m)] w fun e w' => e = .returned (.bool (machR m)) ∧ Kept w w' := by
  obtain ⟨W0, hW0⟩ : ∃ W0, w.alloc (.cells (mchC h m) 43) = W0 := ⟨_, rfl⟩
  have X : Hid (∀ u, Kept W0 u → Cells u w.heap.size 43 (mchC h m)) := fun u hu => (hW0 ▸ Cells.new w 43 (mchC h m) : Cells W0 _ _ _).kept hu
  have k0 : Kept w W0 := hW0 ▸ Kept.alloc (Below.refl _ _) _
  have HK0 : Hid (Kept w W0) := k0
  have a7 := (X.out _ (Below.refl _ _)).m7
  have a8 := (X.out _ (Below.refl _ _)).m8
  have a11 := (X.out _ (Below.refl _ _)).m11
  have hU := impl_UnitOk_ok W0 h.ca h.ta h.cc h.tc m.cs m.ts (hA.c.kept k0) (hA.t.kept k0) hL.c hL.t (hFm.kept k0)
  have HCt : Hid (∀ u, Kept W0 u → Calls Tryz.prog 79 #[.slice h.fa m.fs.length h.fc, .func (.func 80) #[] #[.pointer (some ⟨w.heap.size, 0, none⟩)]] u fun e w' => e = .returned (.bool (!framesM m)) ∧ Kept u w') := fun u hu => frameContains_ok u w.heap.size h m (X.out u hu) (hA.c.kept (k0.trans hu)) hL.c (hA.f.kept (k0.trans hu)) hL.f
  have HMk : Hid (∀ u, Kept W0 u → Calls Tryz.prog 82 #[.agg #[.slice h.sa m.zs.length h.sc], .agg #[.int .i64 m.ph, .slice h.ga m.gs.length h.gc, .slice h.ba m.bs.length h.bc, .int .i64 m.at']] u fun e w' => e = .returned (.bool (markR m.zs m.ph m.gs m.bs m.at')) ∧ Kept u w') := fun u hu => impl_MarkerOk_ok u h.sa h.ga h.ba h.sc h.gc h.bc m.zs m.gs m.bs m.ph m.at' (hA.z.kept (k0.trans hu)) hL.z ⟨hA.g.kept (k0.trans hu), hA.b.kept (k0.trans hu), hL.g, hL.b, hW.g, hW.b⟩ hgn
  have HHo : Hid (headM m = true → markR m.zs m.ph m.gs m.bs m.at' = true → ∀ u, Kept W0 u → Calls Tryz.prog 83 #[.agg (mchC h m)] u fun e w' => e = .returned (.bool (rootM m)) ∧ Kept u w') := fun hh hm u hu => by
    have hlen : (rootsM m).length ≤ 1048576 := by
      rw [rootsM_len]
      simp only [headM, decide_eq_true_eq] at hh
      omega
    by_cases hp : m.ph = 2
    · exact holdsRoots_sweep u h m (hA.kept (k0.trans hu)) hL hW.f hlen hp (markR_slab hm) hgn
    · exact holdsRoots_plain u h m (hA.kept (k0.trans hu)) hL hW.f hlen hp
  clear hA hL hW hgn hFm k0
  by_cases q0 : 1500 < (m.ks.length : Int)
  · have HE : Hid (machR m = false) := machR_head (by rw [headM, decide_eq_false_iff_not]; omega)
    have e0 : decide (1500 < (m.ks.length : Int)) = true := decide_eq_true q0
    clear hU
    go_enter Tryz.func35, Tryz.ntmps35
    go_upto_region 1 with (fail)
    try simp only [hW0]
    clear hW0
    go_wp2_with fail
    go_ret
    exact ⟨by rw [HE.out]; rfl, HK0.out⟩
  have e0 : decide (1500 < (m.ks.length : Int)) = false := decide_eq_false q0
  by_cases q1 : (m.fs.length : Int) < 1
  · have HE : Hid (machR m = false) := machR_head (by rw [headM, decide_eq_false_iff_not]; omega)
    have e1 : decide ((m.fs.length : Int) < 1) = true := decide_eq_true q1
    clear hU
    go_enter Tryz.func35, Tryz.ntmps35
    go_upto_region 1 with (fail)
    try simp only [hW0]
    clear hW0
    go_wp2_with fail
    go_ret
    exact ⟨by rw [HE.out]; rfl, HK0.out⟩
  have e1 : decide ((m.fs.length : Int) < 1) = false := decide_eq_false q1
  by_cases q2 : 31 < (m.fs.length : Int)
  · have HE : Hid (machR m = false) := machR_head (by rw [headM, decide_eq_false_iff_not]; omega)
    have e2 : decide (31 < (m.fs.length : Int)) = true := decide_eq_true q2
    clear hU
    go_enter Tryz.func35, Tryz.ntmps35
    go_upto_region 1 with (fail)
    try simp only [hW0]
    clear hW0
    go_wp2_with fail
    go_ret
    exact ⟨by rw [HE.out]; rfl, HK0.out⟩
  have e2 : decide (31 < (m.fs.length : Int)) = false := decide_eq_false q2
  by_cases q3 : m.cd < 0
  · have HE : Hid (machR m = false) := machR_head (by rw [headM, decide_eq_false_iff_not]; omega)
    have e3 : decide (m.cd < 0) = true := decide_eq_true q3
    clear hU
    go_enter Tryz.func35, Tryz.ntmps35
    go_upto_region 1 with (fail)
    try simp only [hW0]
    clear hW0
    go_wp2_with fail
    go_ret
    exact ⟨by rw [HE.out]; rfl, HK0.out⟩
  have e3 : decide (m.cd < 0) = false := decide_eq_false q3
  by_cases q4 : 5 < m.cd
  · have HE : Hid (machR m = false) := machR_head (by rw [headM, decide_eq_false_iff_not]; omega)
    have e4 : decide (5 < m.cd) = true := decide_eq_true q4
    clear hU
    go_enter Tryz.func35, Tryz.ntmps35
    go_upto_region 1 with (fail)
    try simp only [hW0]
    clear hW0
    go_wp2_with fail
    go_ret
    exact ⟨by rw [HE.out]; rfl, HK0.out⟩
  have e4 : decide (5 < m.cd) = false := decide_eq_false q4
  have HH : Hid (headM m = true) := by rw [Hid, headM, decide_eq_true_eq]; omega
  cases hu : unitR m.cs m.ts with
  | false =>
    have HE : Hid (machR m = false) := by simp [Hid, machR, hu]
    rw [hu] at hU
    clear hu
    go_enter Tryz.func35, Tryz.ntmps35
    go_upto_region 1 with (fail)
    try simp only [hW0]
    clear hW0
    go_upto_region 3 with (fail)
    clear a7 a8 a11
    have a0 := (X.out _ (Below.refl _ _)).m0
    have a1 := (X.out _ (Below.refl _ _)).m1
    go_wp2_with fail
    refine hU.mono ?_
    rintro e w1 ⟨rfl, hk⟩
    go_wp2_with fail
    go_ret
    exact ⟨by rw [HE.out]; rfl, Kept.trans HK0.out hk⟩
  | true =>
    rw [hu] at hU
    have HU : Hid _ := hu
    clear hu
    go_enter Tryz.func35, Tryz.ntmps35
    go_upto_region 1 with (fail)
    try simp only [hW0]
    clear hW0
    go_upto_region 3 with (fail)
    clear a7 a8 a11
    have a0 := (X.out _ (Below.refl _ _)).m0
    have a1 := (X.out _ (Below.refl _ _)).m1
    go_wp2_with fail
    refine hU.mono ?_
    rintro e w1 ⟨rfl, k1⟩
    clear a0 a1 hU
    have a7 := (X.out _ k1).m7
    have hCt := HCt.out _ k1
    cases hf : framesM m with
    | false =>
      have HE : Hid (machR m = false) := by simp [Hid, machR, hf]
      rw [hf] at hCt
      clear hf
      go_wp2_with fail
      refine hCt.mono ?_
      rintro e w2 ⟨rfl, k2⟩
      go_wp2_with fail
      go_ret
      exact ⟨by rw [HE.out]; rfl, Kept.trans HK0.out (k1.trans k2)⟩
    | true =>
      rw [hf] at hCt
      have HF : Hid _ := hf
      clear hf
      go_wp2_with fail
      refine hCt.mono ?_
      rintro e w2 ⟨rfl, k2'⟩
      have k2 := k1.trans k2'
      clear hCt a7 k1 k2'
      have a2 := (X.out _ k2).m2
      have a3 := (X.out _ k2).m3
      have a4 := (X.out _ k2).m4
      have a5 := (X.out _ k2).m5
      have a6 := (X.out _ k2).m6
      have hMk := HMk.out _ k2
      cases hm : markR m.zs m.ph m.gs m.bs m.at' with
      | false =>
        have HE : Hid (machR m = false) := by simp [Hid, machR, hm]
        rw [hm] at hMk
        clear hm
        go_wp2_with fail
        refine hMk.mono ?_
        rintro e w3 ⟨rfl, k3⟩
        go_wp2_with fail
        go_ret
        exact ⟨by rw [HE.out]; rfl, Kept.trans HK0.out (k2.trans k3)⟩
      | true =>
        have HE : Hid (machR m = rootM m) := by rw [Hid, machR, HH.out, HU.out, HF.out, hm]; simp
        rw [hm] at hMk
        have HM : Hid _ := hm
        clear hm
        go_wp2_with fail
        refine hMk.mono ?_
        rintro e w3 ⟨rfl, k3'⟩
        have k3 := k2.trans k3'
        have hHo := HHo.out HH.out HM.out _ k3
        clear hMk a2 a3 a4 a5 a6 k2 k3'

        have a0 := (X.out _ k3).m0
        have a1 := (X.out _ k3).m1
        have a2 := (X.out _ k3).m2
        have a3 := (X.out _ k3).m3
        have a4 := (X.out _ k3).m4
        have a5 := (X.out _ k3).m5
        have a6 := (X.out _ k3).m6
        have a7 := (X.out _ k3).m7
        have a8 := (X.out _ k3).m8
        have a9 := (X.out _ k3).m9
        have a10 := (X.out _ k3).m10
        have a11 := (X.out _ k3).m11
        go_wp2_with fail
        refine hHo.mono ?_
        rintro e w4 ⟨rfl, k4⟩
        clear hHo a0 a1 a2 a3 a4 a5 a6 a7 a8 a9 a10 a11
        go_wp2_with fail
        go_ret
        exact ⟨by rw [HE.out]; rfl, Kept.trans HK0.out (k3.trans k4)⟩
end Go.Proofs.YtgempjjnfpmndaaGreatDoor
namespace Go.Proofs.YtgempjjnfpmndaaGreatDoor
open Go.RowKit
attribute [local go_sem] Plain.and7
set_option linter.unusedSimpArgs false
set_option linter.unusedVariables false
set_option maxHeartbeats 16000000 in
set_option maxRecDepth 100000 in
theorem l17Black_ok (w : World) (h : MchH) (m : Mch) (hA : MchA w h m) (hL : MchLe m) (hW : MchWf h m) (hlen : (rootsM m).length ≤ 1048576) (hok : slabOk m.zs = true) (hkn : h.ka ≠ none) :
    Calls Tryz.prog 73 #[.agg (mchC h m)] w fun e w' => e = .returned (.bool (heldR m.zs m.bs (rootsM m))) ∧ Kept w w' := by
  obtain ⟨W0, hW0⟩ : ∃ W0, w.alloc (.cells (mchC h m) 43) = W0 := ⟨_, rfl⟩
  have X : Hid (∀ u, Kept W0 u → Cells u w.heap.size 43 (mchC h m)) := fun u hu => (hW0 ▸ Cells.new w 43 (mchC h m) : Cells W0 _ _ _).kept hu
  have k0 : Kept w W0 := hW0 ▸ Kept.alloc (Below.refl _ _) _
  have HK0 : Hid (Kept w W0) := k0
  have hRt := spec_Roots_ok W0 h m (hA.k.kept k0) (hA.f.kept k0) hL.k hL.f hW.f hkn
  have HLd : Hid (∀ u v, Kept W0 u → -9223372036854775808 ≤ v ∧ v ≤ 9223372036854775807 → Calls Tryz.prog 119 #[.agg #[.slice h.sa m.zs.length h.sc], .int .i64 v, .int .i64 5] u fun e w' => e = .returned (.bool (leadsR m.zs v 5)) ∧ Kept u w') := fun u v hu hv => l3Leads_ok u h.sa h.sc m.zs v 5 (hA.z.kept (k0.trans hu)) hL.z hok hv.1 hv.2 (by decide)
  have HIn : Hid (∀ u x, Kept W0 u → Calls Tryz.prog 76 #[.slice h.ba m.bs.length h.bc, .int .i64 x] u fun e w' => e = .returned (.bool (decide (x ∈ m.bs))) ∧ Kept u w') := fun u x hu => calls_kept (l7In_ok u h.ba h.bc m.bs x (hA.b.kept (k0.trans hu)) hL.b)
  obtain ⟨n, hn⟩ : ∃ n, (rootsM m).length = n := ⟨_, rfl⟩
  have HN : Hid ((rootsM m).length = n) := hn
  have hnl : n ≤ 1048576 := by omega
  have d0 := (X.out _ (Below.refl _ _)).m0
  have d1 := (X.out _ (Below.refl _ _)).m1
  have d2 := (X.out _ (Below.refl _ _)).m2
  have d3 := (X.out _ (Below.refl _ _)).m3
  have d4 := (X.out _ (Below.refl _ _)).m4
  have d5 := (X.out _ (Below.refl _ _)).m5
  have d6 := (X.out _ (Below.refl _ _)).m6
  have d7 := (X.out _ (Below.refl _ _)).m7
  have d8 := (X.out _ (Below.refl _ _)).m8
  have d9 := (X.out _ (Below.refl _ _)).m9
  have d10 := (X.out _ (Below.refl _ _)).m10
  have d11 := (X.out _ (Below.refl _ _)).m11
  clear hA hL hW hlen hok hkn k0 hn
  go_enter Tryz.func73, Tryz.ntmps73
  go_upto_region 1 with (fail)
  try simp only [hW0]
  clear hW0
  go_wp2_with fail
  refine hRt.mono ?_
  rintro e w3 ⟨v3, rfl, O3, hk3⟩
  obtain ⟨ro, rc, rfl, I3⟩ := O3.ints
  have HI : Hid (∀ u, Kept w3 u → Ints u ro (rootsM m)) := fun u hu => I3.kept hu
  have HK3 : Hid (Kept W0 w3) := hk3
  rw [HN.out]
  clear hRt O3 I3 hk3 d0 d1 d2 d3 d4 d5 d6 d7 d8 d9 d10 d11
  go_wp2_with fail
  go_loopw [4] (fun i wr => ∃ k : Nat, i = .int .i64 k ∧ k ≤ n ∧ Hid (allR (fun i => scR m.zs m.bs (hz (rootsM m) i)) k = true) ∧ Hid (Kept w3 wr)) (fun i _ => n - (intOf i).toNat)
  case atStart => exact ⟨0, rfl, Nat.zero_le _, allR_zero _, Below.refl _ _⟩
  case round =>
    obtain ⟨k, rfl, hk, HA, HK⟩ := hrel
    by_cases hlt : k < n
    · have hlt' : (k : Int) < (n : Int) := by omega
      have q0 : (0 : Int) ≤ (k : Int) := by omega
      obtain ⟨bb, off, hro, hc⟩ := (HI.out wr HK.out).at (k := k) (by rw [HN.out]; exact hlt)
      have y0 := hc k (by rw [HN.out]; exact hlt)
      have hbd := (HI.out wr HK.out).bd k
      obtain ⟨v, hv⟩ : ∃ v, hz (rootsM m) k = v := ⟨_, rfl⟩
      rw [hv] at y0 hbd
      have HV : Hid _ := hv
      have KW := Kept.trans HK3.out HK.out
      have kd : Kept wr wr.drew := (Below.refl _ wr).drew
      have hBl := l7Block_ok v wr
      have HKD : Hid (Kept W0 wr.drew) := KW.trans kd
      have HKR : Hid (Kept w3 wr.drew) := Kept.trans HK.out kd
      have x2 : ∀ u, Kept wr.drew u → u.cell? ⟨w.heap.size, 2, none⟩ = some (.slice h.sa m.zs.length h.sc) := fun u hu => (X.out _ (Kept.trans HKD.out hu)).m2
      have x5 : ∀ u, Kept wr.drew u → u.cell? ⟨w.heap.size, 5, none⟩ = some (.slice h.ba m.bs.length h.bc) := fun u hu => (X.out _ (Kept.trans HKD.out hu)).m5
      have y1 : ∀ u, Kept wr.drew u → u.cell? ⟨bb, off + k, none⟩ = some (.int .i64 v) := fun u hu => cellK (Kept.trans kd hu) y0
      rw [hro]
      obtain ⟨p, hp⟩ : ∃ p, blkV v = p := ⟨_, rfl⟩
      rw [hp] at hBl
      have hIn : Hid (∀ u, Kept wr.drew u → Calls Tryz.prog 76 #[.slice h.ba m.bs.length h.bc, .int .i64 p] u fun e w' => e = .returned (.bool (decide (p ∈ m.bs))) ∧ Kept u w') := fun u hu => HIn.out u p (Kept.trans HKD.out hu)
      obtain ⟨lb, hlb⟩ : ∃ lb, leadsR m.zs v 5 = lb := ⟨_, rfl⟩
      have hLd : Hid (∀ u, Kept wr.drew u → Calls Tryz.prog 119 #[.agg #[.slice h.sa m.zs.length h.sc], .int .i64 v, .int .i64 5] u fun e w' => e = .returned (.bool lb) ∧ Kept u w') := fun u hu => by have := HLd.out u v (Kept.trans HKD.out hu) hbd; rw [hlb] at this; exact this
      have hle := hlb
      cases lb with
      | false =>
        have HN2 : Hid (heldR m.zs m.bs (rootsM m) = false) := heldR_no (k := k) (by rw [HN.out]; exact hlt) (by rw [HV.out]; exact scR_no hle)
        clear hv hc hle hlb hro hbd hp KW kd
        go_wp2_with (go_at_call 75; refine hBl.mono ?_; rintro e wx ⟨rfl, rfl⟩)
        refine wp_region_seqL (by kernel_rfl) (by kernel_rfl) ?_
        repeat (first
          | (refine SeqL.skip (by rfl) ?_; simp only [Act.put, List.setIfInBounds_toArray, List.set_cons_zero, List.set_cons_succ])
          | (refine SeqL.pure ?_ (by rfl) ?_ ?_; rotate_left; (focus (intro u hu; have x2' := x2 u hu; have x5' := x5 u hu; have y1' := y1 u hu; go_simp; first | done | exact rfl)); simp only [Act.put, List.setIfInBounds_toArray, List.set_cons_zero, List.set_cons_succ])
          | (refine SeqL.call _ _ _ (by rfl) ?_ hLd.out ?_; (focus (intro u; go_simp; done)); simp only [Act.put, List.setIfInBounds_toArray, List.set_cons_zero, List.set_cons_succ]))
        refine SeqL.nil ?_
        intro u hu
        go_wp2_with fail
        go_ret
        exact ⟨by rw [HN2.out]; rfl, Kept.trans HK0.out (Kept.trans HKD.out hu)⟩
      | true =>
        by_cases h4 : v % 8 < 4
        · have HS : Hid (allR (fun i => scR m.zs m.bs (hz (rootsM m) i)) (k + 1) = true) := by rw [Hid, allR_succ, HA.out]; simp only [HV.out, scR_low hle h4, Bool.and_self]
          have hp0 : p < 0 := by rw [← hp, blkV, if_pos h4]; omega
          have hd0 : decide (0 ≤ p) = false := decide_eq_false (by omega)
          clear hv hc hle hlb hro hbd hp KW kd h4
          go_wp2_with (go_at_call 75; refine hBl.mono ?_; rintro e wx ⟨rfl, rfl⟩)
          refine wp_region_seqL (by kernel_rfl) (by kernel_rfl) ?_
          repeat (first
            | (refine SeqL.skip (by rfl) ?_; simp only [Act.put, List.setIfInBounds_toArray, List.set_cons_zero, List.set_cons_succ])
            | (refine SeqL.pure ?_ (by rfl) ?_ ?_; rotate_left; (focus (intro u hu; have x2' := x2 u hu; have x5' := x5 u hu; have y1' := y1 u hu; go_simp; first | done | exact rfl)); simp only [Act.put, List.setIfInBounds_toArray, List.set_cons_zero, List.set_cons_succ])
            | (refine SeqL.call _ _ _ (by rfl) ?_ hLd.out ?_; (focus (intro u; go_simp; done)); simp only [Act.put, List.setIfInBounds_toArray, List.set_cons_zero, List.set_cons_succ]))
          refine SeqL.nil ?_
          intro u hu
          go_wp2_with fail
          go_roundw
          case rel => exact ⟨k + 1, by go_num, by omega, HS.out, Kept.trans HKR.out hu⟩
          case measure => simp [intOf]; omega
        · have hpv : p = v / 8 := by rw [← hp, blkV, if_neg h4]
          obtain ⟨p', hp', hpz⟩ := leads_place hle (by omega)
          have hsc := scR_at (bs := m.bs) hle (show 4 ≤ v % 8 by omega)
          rw [← hpv] at hsc
          have hp0 : 0 ≤ p := by omega
          have hd0 : decide (0 ≤ p) = true := decide_eq_true hp0
          cases hin : decide (p ∈ m.bs) with
          | true =>
            have HS : Hid (allR (fun i => scR m.zs m.bs (hz (rootsM m) i)) (k + 1) = true) := by rw [Hid, allR_succ, HA.out]; simp only [HV.out, hsc, hin, Bool.and_self]
            rw [hin] at hIn
            clear hv hc hle hlb hro hbd hp KW kd h4 hpv hp' hpz hsc hin
            go_wp2_with (go_at_call 75; refine hBl.mono ?_; rintro e wx ⟨rfl, rfl⟩)
            refine wp_region_seqL (by kernel_rfl) (by kernel_rfl) ?_
            repeat (first
              | (refine SeqL.skip (by rfl) ?_; simp only [Act.put, List.setIfInBounds_toArray, List.set_cons_zero, List.set_cons_succ])
              | (refine SeqL.pure ?_ (by rfl) ?_ ?_; rotate_left; (focus (intro u hu; have x2' := x2 u hu; have x5' := x5 u hu; have y1' := y1 u hu; go_simp; first | done | exact rfl)); simp only [Act.put, List.setIfInBounds_toArray, List.set_cons_zero, List.set_cons_succ])
              | (refine SeqL.call _ _ _ (by rfl) ?_ hLd.out ?_; (focus (intro u; go_simp; done)); simp only [Act.put, List.setIfInBounds_toArray, List.set_cons_zero, List.set_cons_succ])
              | (refine SeqL.call _ _ _ (by rfl) ?_ hIn.out ?_; (focus (intro u; go_simp; done)); simp only [Act.put, List.setIfInBounds_toArray, List.set_cons_zero, List.set_cons_succ]))
            refine SeqL.nil ?_
            intro u hu
            go_wp2_with fail
            go_roundw
            case rel => exact ⟨k + 1, by go_num, by omega, HS.out, Kept.trans HKR.out hu⟩
            case measure => simp [intOf]; omega
          | false =>
            have HN2 : Hid (heldR m.zs m.bs (rootsM m) = false) := heldR_no (k := k) (by rw [HN.out]; exact hlt) (by rw [HV.out, hsc, hin])
            rw [hin] at hIn
            clear hv hc hle hlb hro hbd hp KW kd h4 hpv hp' hpz hsc hin
            go_wp2_with (go_at_call 75; refine hBl.mono ?_; rintro e wx ⟨rfl, rfl⟩)
            refine wp_region_seqL (by kernel_rfl) (by kernel_rfl) ?_
            repeat (first
              | (refine SeqL.skip (by rfl) ?_; simp only [Act.put, List.setIfInBounds_toArray, List.set_cons_zero, List.set_cons_succ])
              | (refine SeqL.pure ?_ (by rfl) ?_ ?_; rotate_left; (focus (intro u hu; have x2' := x2 u hu; have x5' := x5 u hu; have y1' := y1 u hu; go_simp; first | done | exact rfl)); simp only [Act.put, List.setIfInBounds_toArray, List.set_cons_zero, List.set_cons_succ])
              | (refine SeqL.call _ _ _ (by rfl) ?_ hLd.out ?_; (focus (intro u; go_simp; done)); simp only [Act.put, List.setIfInBounds_toArray, List.set_cons_zero, List.set_cons_succ])
              | (refine SeqL.call _ _ _ (by rfl) ?_ hIn.out ?_; (focus (intro u; go_simp; done)); simp only [Act.put, List.setIfInBounds_toArray, List.set_cons_zero, List.set_cons_succ]))
            refine SeqL.nil ?_
            intro u hu
            go_wp2_with fail
            go_ret
            exact ⟨by rw [HN2.out]; rfl, Kept.trans HK0.out (Kept.trans HKD.out hu)⟩
    · have hlt' : ¬ (k : Int) < (n : Int) := by omega
      have HY : Hid (heldR m.zs m.bs (rootsM m) = true) := by
        have := HA.out
        rw [show k = (rootsM m).length by rw [HN.out]; omega] at this
        exact this
      go_wp2_with fail
      go_ret
      exact ⟨by rw [HY.out]; rfl, Kept.trans HK0.out (Kept.trans HK3.out HK.out)⟩
end Go.Proofs.YtgempjjnfpmndaaGreatDoor
namespace Go.Proofs.YtgempjjnfpmndaaGreatDoor
open Go.RowKit
attribute [local go_sem] Plain.and7
set_option linter.unusedSimpArgs false
set_option linter.unusedVariables false
theorem framesM_no {m : Mch} {k : Nat} {s : Stp} (hs : m.fs[k]? = some s) (h : frmR m.cs s = false) : framesM m = false := all_no hs h
theorem machR_frames {m : Mch} (h : framesM m = false) : machR m = false := by simp [machR, h]
set_option maxHeartbeats 16000000 in
set_option maxRecDepth 100000 in
theorem spec_MachineOk_ok (w : World) (h : MchH) (m : Mch) (hA : MchA w h m) (hL : MchLe m) (hW : MchWf h m) (hkn : h.ka ≠ none) :
    Calls Tryz.prog 26 #[.agg (mchC h m)] w fun e w' => e = .returned (.bool (machR m)) ∧ Kept w w' := by
  obtain ⟨W0, hW0⟩ : ∃ W0, w.alloc (.cells (mchC h m) 43) = W0 := ⟨_, rfl⟩
  have X : Hid (∀ u, Kept W0 u → Cells u w.heap.size 43 (mchC h m)) := fun u hu => (hW0 ▸ Cells.new w 43 (mchC h m) : Cells W0 _ _ _).kept hu
  have k0 : Kept w W0 := hW0 ▸ Kept.alloc (Below.refl _ _) _
  have HK0 : Hid (Kept w W0) := k0
  have hU := spec_UnitOk_ok W0 h.ca h.ta h.cc h.tc m.cs m.ts (hA.c.kept k0) (hA.t.kept k0) hL.c hL.t hL.i
  have HMk : Hid (∀ u, Kept W0 u → Calls Tryz.prog 70 #[.agg #[.slice h.sa m.zs.length h.sc], .agg #[.int .i64 m.ph, .slice h.ga m.gs.length h.gc, .slice h.ba m.bs.length h.bc, .int .i64 m.at']] u fun e w' => e = .returned (.bool (markR m.zs m.ph m.gs m.bs m.at')) ∧ Kept u w') := fun u hu => spec_MarkerOk_ok u h.sa h.ga h.ba h.sc h.gc h.bc m.zs m.gs m.bs m.ph m.at' (hA.z.kept (k0.trans hu)) hL.z ⟨hA.g.kept (k0.trans hu), hA.b.kept (k0.trans hu), hL.g, hL.b, hW.g, hW.b⟩
  have HF : Hid (∀ u, Kept W0 u → StpsA u h.fa m.fs) := fun u hu => hA.f.kept (k0.trans hu)
  have HCd : Hid (∀ u, Kept W0 u → CodsA u h.ca m.cs) := fun u hu => hA.c.kept (k0.trans hu)
  have HBl : Hid (headM m = true → markR m.zs m.ph m.gs m.bs m.at' = true → ∀ u, Kept W0 u → Calls Tryz.prog 73 #[.agg (mchC h m)] u fun e w' => e = .returned (.bool (heldR m.zs m.bs (rootsM m))) ∧ Kept u w') := fun hh hm u hu => by
    have hlen : (rootsM m).length ≤ 1048576 := by
      rw [rootsM_len]
      simp only [headM, decide_eq_true_eq] at hh
      omega
    exact l17Black_ok u h m (hA.kept (k0.trans hu)) hL hW hlen (markR_slab hm) hkn
  have HRt : Hid (∀ u, Kept W0 u → Calls Tryz.prog 28 #[.agg (mchC h m)] u fun e w' => ∃ v, e = .returned v ∧ OwnL w' u.heap.size v (rootsM m) ∧ Kept u w') := fun u hu => spec_Roots_ok u h m (hA.k.kept (k0.trans hu)) (hA.f.kept (k0.trans hu)) hL.k hL.f hW.f hkn
  have HRo : Hid (headM m = true → ∀ u ro rc, Kept W0 u → Ints u ro (rootsM m) → Calls Tryz.prog 74 #[.agg #[.slice h.sa m.zs.length h.sc], .slice ro (rootsM m).length rc] u fun e w' => e = .returned (.bool (rootsR m.zs (rootsM m))) ∧ Kept u w') := fun hh u ro rc hu hr => by
    have hlen : (rootsM m).length ≤ 1048576 := by
      rw [rootsM_len]
      simp only [headM, decide_eq_true_eq] at hh
      omega
    exact spec_RootsOk_ok u h.sa ro h.sc rc m.zs (rootsM m) (hA.z.kept (k0.trans hu)) hL.z hr hlen
  have HLc : Hid (m.cs.length ≤ 1048576 ∧ m.fs.length ≤ 1048576) := ⟨hL.c, hL.f⟩
  have HLi : Hid (∀ c ∈ m.cs, c.ss.length ≤ 1048576) := hL.i
  have a0 := (X.out _ (Below.refl _ _)).m0
  have a1 := (X.out _ (Below.refl _ _)).m1
  clear hA hL hW hkn k0
  go_enter Tryz.func26, Tryz.ntmps26
  go_upto_region 1 with (fail)
  try simp only [hW0]
  clear hW0
  cases hu : unitR m.cs m.ts with
  | false =>
    have HE : Hid (machR m = false) := by simp [Hid, machR, hu]
    rw [hu] at hU
    clear hu
    go_wp2_with fail
    refine hU.mono ?_
    rintro e w1 ⟨rfl, hk⟩
    go_wp2_with fail
    go_ret
    exact ⟨by rw [HE.out]; rfl, Kept.trans HK0.out hk⟩
  | true =>
  rw [hu] at hU
  have HU : Hid _ := hu
  clear hu
  go_wp2_with fail
  refine hU.mono ?_
  rintro e w1 ⟨rfl, k1⟩
  clear a0 a1 hU
  have a2 := (X.out _ k1).m2
  have a3 := (X.out _ k1).m3
  have a4 := (X.out _ k1).m4
  have a5 := (X.out _ k1).m5
  have a6 := (X.out _ k1).m6
  have hMk := HMk.out _ k1
  cases hm : markR m.zs m.ph m.gs m.bs m.at' with
  | false =>
    have HE : Hid (machR m = false) := by simp [Hid, machR, hm]
    rw [hm] at hMk
    clear hm
    go_wp2_with fail
    refine hMk.mono ?_
    rintro e w2 ⟨rfl, k2⟩
    go_wp2_with fail
    go_ret
    exact ⟨by rw [HE.out]; rfl, Kept.trans HK0.out (k1.trans k2)⟩
  | true =>
  rw [hm] at hMk
  have HM : Hid _ := hm
  clear hm
  go_wp2_with fail
  refine hMk.mono ?_
  rintro e w2 ⟨rfl, k2'⟩
  have k2 := k1.trans k2'
  clear a2 a3 a4 a5 a6 hMk k1 k2'
  have a7 := (X.out _ k2).m7
  have a8 := (X.out _ k2).m8
  have a11 := (X.out _ k2).m11
  by_cases q0 : 1500 < (m.ks.length : Int)
  · have HE : Hid (machR m = false) := machR_head (by rw [headM, decide_eq_false_iff_not]; omega)
    have e0 : decide (1500 < (m.ks.length : Int)) = true := decide_eq_true q0
    go_wp2_with fail
    go_ret
    exact ⟨by rw [HE.out]; rfl, Kept.trans HK0.out k2⟩
  have e0 : decide (1500 < (m.ks.length : Int)) = false := decide_eq_false q0
  have hI1 := l1InS (m.fs.length : Int) 1 31 w2
  have hI2 := l1InS m.cd 0 5 w2
  by_cases q1 : 1 ≤ (m.fs.length : Int) ∧ (m.fs.length : Int) ≤ 31
  rotate_left
  · have HE : Hid (machR m = false) := machR_head (by rw [headM, decide_eq_false_iff_not]; omega)
    rw [decide_eq_false q1] at hI1
    clear hI2
    go_wp2_with (go_at_call 71; refine hI1.mono ?_; rintro e wx ⟨rfl, rfl⟩)
    go_ret
    exact ⟨by rw [HE.out]; rfl, Kept.trans HK0.out k2⟩
  by_cases q2 : 0 ≤ m.cd ∧ m.cd ≤ 5
  rotate_left
  · have HE : Hid (machR m = false) := machR_head (by rw [headM, decide_eq_false_iff_not]; omega)
    rw [decide_eq_true q1] at hI1
    rw [decide_eq_false q2] at hI2
    go_wp2_with fail
    refine hI1.mono ?_
    rintro e wx ⟨rfl, rfl⟩
    go_wp2_with fail
    refine hI2.mono ?_
    rintro e wx ⟨rfl, rfl⟩
    go_wp2_with fail
    go_ret
    exact ⟨by rw [HE.out]; rfl, Kept.trans HK0.out k2⟩
  have HH : Hid (headM m = true) := by rw [Hid, headM, decide_eq_true_eq]; omega
  rw [decide_eq_true q1] at hI1
  rw [decide_eq_true q2] at hI2
  clear q1 q2
  go_wp2_with fail
  refine hI1.mono ?_
  rintro e wx ⟨rfl, rfl⟩
  go_wp2_with fail
  refine hI2.mono ?_
  rintro e w3 ⟨rfl, rfl⟩
  have HK3 : Hid (Kept W0 w3) := k2
  clear a7 a8 a11 hI1 hI2 k2
  go_wp2_with fail
  go_loopw [3] (fun i wr => ∃ k : Nat, i = .int .i64 k ∧ k ≤ m.fs.length ∧ Hid (∀ j s, j < k → m.fs[j]? = some s → frmR m.cs s = true) ∧ Hid (Kept w3 wr)) (fun i _ => m.fs.length - (intOf i).toNat)
  case atStart => exact ⟨0, rfl, Nat.zero_le _, fun j q h => absurd h (by omega), Below.refl _ _⟩
  case round =>
    obtain ⟨k, rfl, hk, HO, HK⟩ := hrel
    have KR : Hid (Kept W0 wr) := Kept.trans HK3.out HK.out
    have a7 := (X.out _ KR.out).m7
    have hfl := HLc.out.2
    have hcl := HLc.out.1
    by_cases hlt : k < m.fs.length
    · obtain ⟨q, hq⟩ : ∃ q, m.fs[k]? = some q := ⟨_, List.getElem?_eq_getElem hlt⟩
      obtain ⟨b, off, hfa, g0, g1, g2⟩ := (HF.out _ KR.out) k q hq
      obtain ⟨s0, s1, s2⟩ := q
      simp only at g0 g1 g2
      have hlt' : (k : Int) < (m.fs.length : Int) := by omega
      have q0 : (0 : Int) ≤ (k : Int) := by omega
      have HQ : Hid _ := hq
      rw [hfa] at a7
      obtain ⟨wf, hwf⟩ : ∃ x, wr.alloc (.cells #[.int .i64 s0, .int .i64 s1, .int .i64 s2] 94) = x := ⟨_, rfl⟩
      have kf : Kept wr wf := hwf ▸ Kept.alloc (Below.refl _ _) _
      have bf : Cells wf wr.heap.size 94 #[.int .i64 s0, .int .i64 s1, .int .i64 s2] := hwf ▸ Cells.new wr _ _
      have kd : Kept wf wf.drew := (Below.refl _ wf).drew
      have f0 : ∀ u, Kept wf.drew u → u.cell? ⟨wr.heap.size, 0, none⟩ = some (.int .i64 s0) := fun u hu => (bf.kept (kd.trans hu)).cell 0
      have f1 : ∀ u, Kept wf.drew u → u.cell? ⟨wr.heap.size, 1, none⟩ = some (.int .i64 s1) := fun u hu => (bf.kept (kd.trans hu)).cell 1
      have f2 : ∀ u, Kept wf.drew u → u.cell? ⟨wr.heap.size, 2, none⟩ = some (.int .i64 s2) := fun u hu => (bf.kept (kd.trans hu)).cell 2
      have KF : Hid (∀ u, Kept wf.drew u → Kept w3 u) := fun u hu => Kept.trans HK.out (kf.trans (kd.trans hu))
      have hw1 : IntKind.i64.wrap ((m.cs.length : Int) - 1) = (m.cs.length : Int) - 1 := by rw [IntWalk.i64_left, IntWalk.wrap64_in _ (by omega)]
      obtain ⟨b1, hb1⟩ : ∃ b1, decide (0 ≤ s0 ∧ s0 ≤ (m.cs.length : Int) - 1) = b1 := ⟨_, rfl⟩
      have hI1 : Hid (∀ u, Kept wf.drew u → Calls Tryz.prog 71 #[.int .i64 s0, .int .i64 0, .int .i64 ((m.cs.length : Int) - 1)] u fun e w' => e = .returned (.bool b1) ∧ Kept u w') := fun u hu => by have := l1InS s0 0 ((m.cs.length : Int) - 1) u; rw [hb1] at this; exact this.mono (fun _ _ ⟨x, y⟩ => ⟨x, y ▸ Below.refl _ _⟩)
      cases b1 with
      | false =>
        have HE : Hid (machR m = false) := machR_frames (framesM_no HQ.out (by
          rw [decide_eq_false_iff_not] at hb1
          by_cases hn : s0 < 0
          · exact frmR_neg hn
          · exact frmR_big (by simp only; omega)))
        have x0 : ∀ u, Kept wf.drew u → u.cell? ⟨w.heap.size, 0, none⟩ = some (.slice h.ca m.cs.length h.cc) := fun u hu => (X.out _ (Kept.trans HK3.out (KF.out u hu))).m0
        clear hq hfa hb1 bf kf kd
        go_upto_region 7 with (fail)
        try simp only [hwf]
        clear hwf
        refine wp_region_seqL (by kernel_rfl) (by kernel_rfl) ?_
        repeat (first
          | (refine SeqL.skip (by rfl) ?_; simp only [Act.put, List.setIfInBounds_toArray, List.set_cons_zero, List.set_cons_succ])
          | (refine SeqL.pure ?_ (by rfl) ?_ ?_; rotate_left; (focus (intro u hu; have f0' := f0 u hu; have f1' := f1 u hu; have f2' := f2 u hu; have x0' := x0 u hu; go_simp; first | done | exact rfl)); simp only [Act.put, List.setIfInBounds_toArray, List.set_cons_zero, List.set_cons_succ])
          | (refine SeqL.call _ _ _ (by rfl) ?_ hI1.out ?_; (focus (intro u; go_simp; done)); simp only [Act.put, List.setIfInBounds_toArray, List.set_cons_zero, List.set_cons_succ]))
        refine SeqL.nil ?_
        intro u hu
        go_wp2_with fail
        go_ret
        exact ⟨by rw [HE.out]; rfl, Kept.trans HK0.out (Kept.trans HK3.out (KF.out u hu))⟩
      | true =>
        rw [decide_eq_true_eq] at hb1
        obtain ⟨n, rfl⟩ : ∃ n : Nat, s0 = n := ⟨s0.toNat, by omega⟩
        obtain ⟨c, hc⟩ : ∃ c, m.cs[n]? = some c := ⟨_, List.getElem?_eq_getElem (by omega)⟩
        have hE := frmR_at (s := ((n : Int), s1, s2)) rfl hc
        simp only at hE
        have hss := HLi.out c (List.mem_of_getElem? hc)
        obtain ⟨cb, coff, xo, xc, hca, _, _, h2, _⟩ := (HCd.out _ KR.out) n c hc
        have hn : (n : Int) < (m.cs.length : Int) := by omega
        have x0 : ∀ u, Kept wf.drew u → u.cell? ⟨w.heap.size, 0, none⟩ = some (.slice (some ⟨cb, coff, none⟩) m.cs.length h.cc) := fun u hu => by rw [← hca]; exact (X.out _ (Kept.trans HK3.out (KF.out u hu))).m0
        have x2 : ∀ u, Kept wf.drew u → u.cell? ⟨cb, coff + n * 3 + 2, none⟩ = some (.slice xo c.ss.length xc) := fun u hu => cellK (kf.trans (kd.trans hu)) h2
        have hw2 : IntKind.i64.wrap ((c.ss.length : Int) - 1) = (c.ss.length : Int) - 1 := by rw [IntWalk.i64_left, IntWalk.wrap64_in _ (by omega)]
        obtain ⟨b2, hb2⟩ : ∃ b2, decide (0 ≤ s1 ∧ s1 ≤ (c.ss.length : Int) - 1) = b2 := ⟨_, rfl⟩
        have hI2 : Hid (∀ u, Kept wf.drew u → Calls Tryz.prog 71 #[.int .i64 s1, .int .i64 0, .int .i64 ((c.ss.length : Int) - 1)] u fun e w' => e = .returned (.bool b2) ∧ Kept u w') := fun u hu => by have := l1InS s1 0 ((c.ss.length : Int) - 1) u; rw [hb2] at this; exact this.mono (fun _ _ ⟨x, y⟩ => ⟨x, y ▸ Below.refl _ _⟩)
        have e3 : (decide (0 ≤ s1) && decide (s1 < (c.ss.length : Int))) = b2 := by rw [← hb2, ← Bool.decide_and, decide_eq_decide]; omega
        rw [e3] at hE
        have hz : (0 : Int) ≤ (n : Int) := by omega
        cases b2 with
        | false =>
          have HE : Hid (machR m = false) := machR_frames (framesM_no HQ.out (by rw [hE]; simp))
          clear hq hfa hb1 hb2 bf kf kd hc hE hca h2 e3 hss
          go_upto_region 7 with (fail)
          try simp only [hwf]
          clear hwf
          refine wp_region_seqL (by kernel_rfl) (by kernel_rfl) ?_
          repeat (first
            | (refine SeqL.skip (by rfl) ?_; simp only [Act.put, List.setIfInBounds_toArray, List.set_cons_zero, List.set_cons_succ])
            | (refine SeqL.pure ?_ (by rfl) ?_ ?_; rotate_left; (focus (intro u hu; have f0' := f0 u hu; have f1' := f1 u hu; have f2' := f2 u hu; have x0' := x0 u hu; have x2' := x2 u hu; go_simp; first | done | exact rfl)); simp only [Act.put, List.setIfInBounds_toArray, List.set_cons_zero, List.set_cons_succ])
            | (refine SeqL.call _ _ _ (by rfl) ?_ hI1.out ?_; (focus (intro u; go_simp; done)); simp only [Act.put, List.setIfInBounds_toArray, List.set_cons_zero, List.set_cons_succ])
            | (refine SeqL.call _ _ _ (by rfl) ?_ hI2.out ?_; (focus (intro u; go_simp; done)); simp only [Act.put, List.setIfInBounds_toArray, List.set_cons_zero, List.set_cons_succ]))
          refine SeqL.nil ?_
          intro u hu
          go_wp2_with fail
          go_ret
          exact ⟨by rw [HE.out]; rfl, Kept.trans HK0.out (Kept.trans HK3.out (KF.out u hu))⟩
        | true =>
          have hKd : Hid (∀ u, Kept wf.drew u → Calls Tryz.prog 72 #[.int .i64 s2] u fun e w' => e = .returned (.int .i64 (s2 % 8)) ∧ Kept u w') := fun u _ => calls_kept (spec_Kind_ok s2 u)
          obtain ⟨p, hp⟩ : ∃ p, s2 % 8 = p := ⟨_, rfl⟩
          rw [hp] at hKd hE
          by_cases h7 : p = 7
          · have HS : Hid (frmR m.cs ((n : Int), s1, s2) = true) := by rw [Hid, hE, h7]; rfl
            have hp7 : (p != 7) = false := by rw [h7]; rfl
            clear hq hfa hb1 hb2 bf kf kd hc hE hca h2 e3 hss hp h7
            go_upto_region 7 with (fail)
            try simp only [hwf]
            clear hwf
            refine wp_region_seqL (by kernel_rfl) (by kernel_rfl) ?_
            repeat (first
              | (refine SeqL.skip (by rfl) ?_; simp only [Act.put, List.setIfInBounds_toArray, List.set_cons_zero, List.set_cons_succ])
              | (refine SeqL.pure ?_ (by rfl) ?_ ?_; rotate_left; (focus (intro u hu; have f0' := f0 u hu; have f1' := f1 u hu; have f2' := f2 u hu; have x0' := x0 u hu; have x2' := x2 u hu; go_simp; first | done | exact rfl)); simp only [Act.put, List.setIfInBounds_toArray, List.set_cons_zero, List.set_cons_succ])
              | (refine SeqL.call _ _ _ (by rfl) ?_ hI1.out ?_; (focus (intro u; go_simp; done)); simp only [Act.put, List.setIfInBounds_toArray, List.set_cons_zero, List.set_cons_succ])
              | (refine SeqL.call _ _ _ (by rfl) ?_ hI2.out ?_; (focus (intro u; go_simp; done)); simp only [Act.put, List.setIfInBounds_toArray, List.set_cons_zero, List.set_cons_succ])
              | (refine SeqL.call _ _ _ (by rfl) ?_ hKd.out ?_; (focus (intro u; go_simp; done)); simp only [Act.put, List.setIfInBounds_toArray, List.set_cons_zero, List.set_cons_succ]))
            refine SeqL.nil ?_
            intro u hu
            go_wp2_with fail
            go_roundw
            case rel => exact ⟨k + 1, by go_num, by omega, fun j s hj hs => by
              rcases Nat.lt_succ_iff_lt_or_eq.1 hj with h | h
              · exact HO.out j s h hs
              · rw [h, HQ.out] at hs; cases hs; exact HS.out, KF.out u hu⟩
            case measure => simp [intOf]; omega
          · have HE : Hid (machR m = false) := machR_frames (framesM_no HQ.out (by rw [hE, decide_eq_false h7]; rfl))
            have hp7 : (p != 7) = true := by simpa using h7
            clear hq hfa hb1 hb2 bf kf kd hc hE hca h2 e3 hss hp h7
            go_upto_region 7 with (fail)
            try simp only [hwf]
            clear hwf
            refine wp_region_seqL (by kernel_rfl) (by kernel_rfl) ?_
            repeat (first
              | (refine SeqL.skip (by rfl) ?_; simp only [Act.put, List.setIfInBounds_toArray, List.set_cons_zero, List.set_cons_succ])
              | (refine SeqL.pure ?_ (by rfl) ?_ ?_; rotate_left; (focus (intro u hu; have f0' := f0 u hu; have f1' := f1 u hu; have f2' := f2 u hu; have x0' := x0 u hu; have x2' := x2 u hu; go_simp; first | done | exact rfl)); simp only [Act.put, List.setIfInBounds_toArray, List.set_cons_zero, List.set_cons_succ])
              | (refine SeqL.call _ _ _ (by rfl) ?_ hI1.out ?_; (focus (intro u; go_simp; done)); simp only [Act.put, List.setIfInBounds_toArray, List.set_cons_zero, List.set_cons_succ])
              | (refine SeqL.call _ _ _ (by rfl) ?_ hI2.out ?_; (focus (intro u; go_simp; done)); simp only [Act.put, List.setIfInBounds_toArray, List.set_cons_zero, List.set_cons_succ])
              | (refine SeqL.call _ _ _ (by rfl) ?_ hKd.out ?_; (focus (intro u; go_simp; done)); simp only [Act.put, List.setIfInBounds_toArray, List.set_cons_zero, List.set_cons_succ]))
            refine SeqL.nil ?_
            intro u hu
            go_wp2_with fail
            go_ret
            exact ⟨by rw [HE.out]; rfl, Kept.trans HK0.out (Kept.trans HK3.out (KF.out u hu))⟩
    · have hlt' : ¬ (k : Int) < (m.fs.length : Int) := by omega
      have HY : Hid (framesM m = true) := all_yes (fun j x hj hx => HO.out j x (by omega) hx)
      have HE : Hid (machR m = rootM m) := by rw [Hid, machR, HH.out, HU.out, HY.out, HM.out]; simp
      have a3 := (X.out _ KR.out).m3
      by_cases hp : m.ph = 2
      · have hp' : (m.ph == 2) = true := by simpa using hp
        have HR : Hid (rootM m = heldR m.zs m.bs (rootsM m)) := by rw [Hid, rootM, if_pos hp]
        have hBl := HBl.out HH.out HM.out _ KR.out
        clear hp
        go_upto_region 10 with (fail)
        clear a3 a7
        have d0 := (X.out _ KR.out).m0
        have d1 := (X.out _ KR.out).m1
        have d2 := (X.out _ KR.out).m2
        have d3 := (X.out _ KR.out).m3
        have d4 := (X.out _ KR.out).m4
        have d5 := (X.out _ KR.out).m5
        have d6 := (X.out _ KR.out).m6
        have d7 := (X.out _ KR.out).m7
        have d8 := (X.out _ KR.out).m8
        have d9 := (X.out _ KR.out).m9
        have d10 := (X.out _ KR.out).m10
        have d11 := (X.out _ KR.out).m11
        go_wp2_with fail
        refine hBl.mono ?_
        rintro e w4 ⟨rfl, k4⟩
        clear hBl d0 d1 d2 d3 d4 d5 d6 d7 d8 d9 d10 d11
        go_wp2_with fail
        go_ret
        exact ⟨by rw [HE.out, HR.out]; rfl, Kept.trans HK0.out (Kept.trans KR.out k4)⟩
      · have hp' : (m.ph == 2) = false := by simpa using hp
        have HR : Hid (rootM m = rootsR m.zs (rootsM m)) := by rw [Hid, rootM, if_neg hp]
        have KD : Hid (Kept W0 wr.drew) := Kept.trans KR.out ((Below.refl _ wr).drew)
        have hRt := HRt.out _ KD.out
        have HRo2 := HRo.out HH.out
        have HRo3 : Hid _ := HRo2
        clear HRo2
        obtain ⟨R, hR⟩ : ∃ R, rootsR m.zs (rootsM m) = R := ⟨_, rfl⟩
        rw [hR] at HRo3 HR
        obtain ⟨nn, hnn⟩ : ∃ n, (rootsM m).length = n := ⟨_, rfl⟩
        have HN : Hid ((rootsM m).length = nn) := hnn
        rw [hnn] at HRo3
        clear hp hR hnn
        go_upto_region 11 with (fail)
        clear a3 a7
        have d0 := (X.out _ KD.out).m0
        have d1 := (X.out _ KD.out).m1
        have d2 := (X.out _ KD.out).m2
        have d3 := (X.out _ KD.out).m3
        have d4 := (X.out _ KD.out).m4
        have d5 := (X.out _ KD.out).m5
        have d6 := (X.out _ KD.out).m6
        have d7 := (X.out _ KD.out).m7
        have d8 := (X.out _ KD.out).m8
        have d9 := (X.out _ KD.out).m9
        have d10 := (X.out _ KD.out).m10
        have d11 := (X.out _ KD.out).m11
        go_region_with (first
          | (have _t := tk1; go_at_call 74; refine (HRo3.out _ _ _ tk1 I1).mono ?_; rintro e w5 ⟨rfl, hk5⟩)
          | (go_at_call 28; refine hRt.mono ?_; rintro e w4 ⟨v1, rfl, O1, hk4⟩; obtain ⟨ro, rc, rfl, I1⟩ := O1.ints; have tk1 := Kept.trans KD.out hk4; rw [HN.out]; have d2 := (X.out _ tk1).m2))
        all_goals (
          go_wp2_with fail
          go_ret
          exact ⟨by rw [HE.out, HR.out]; rfl, Kept.trans HK0.out (tk1.trans hk5)⟩)
end Go.Proofs.YtgempjjnfpmndaaGreatDoor
namespace Go.Proofs.YtgempjjnfpmndaaGreatDoor
open Go.RowKit
set_option linter.unusedSimpArgs false
set_option linter.unusedVariables false
/-- A machine is sound. -/
def soundR (m : Mch) : Bool := machR m && triR m.zs m.ph m.gs m.bs m.at'
set_option maxHeartbeats 16000000 in
set_option maxRecDepth 100000 in
theorem impl_Sound_ok (w : World) (h : MchH) (m : Mch) (hA : MchA w h m) (hL : MchLe m) (hW : MchWf h m) (hgn : h.ga = none → h.gc = 0) (hFm : Forms w) :
    Calls Tryz.prog 12 #[.agg (mchC h m)] w fun e w' => e = .returned (.bool (soundR m)) ∧ Kept w w' := by
  obtain ⟨W0, hW0⟩ : ∃ W0, w.alloc (.cells (mchC h m) 43) = W0 := ⟨_, rfl⟩
  have X : Hid (∀ u, Kept W0 u → Cells u w.heap.size 43 (mchC h m)) := fun u hu => (hW0 ▸ Cells.new w 43 (mchC h m) : Cells W0 _ _ _).kept hu
  have k0 : Kept w W0 := hW0 ▸ Kept.alloc (Below.refl _ _) _
  have HK0 : Hid (Kept w W0) := k0
  have hM := impl_MachineOk_ok W0 h m (hA.kept k0) hL hW hgn (hFm.kept k0)
  have HT : Hid (∀ u, Kept W0 u → Calls Tryz.prog 46 #[.agg #[.slice h.sa m.zs.length h.sc], .agg #[.int .i64 m.ph, .slice h.ga m.gs.length h.gc, .slice h.ba m.bs.length h.bc, .int .i64 m.at']] u fun e w' => e = .returned (.bool (triR m.zs m.ph m.gs m.bs m.at')) ∧ Kept u w') := fun u hu => impl_TriOk_ok u h.sa h.ga h.ba h.sc h.gc h.bc m.zs m.gs m.bs m.ph m.at' (hA.z.kept (k0.trans hu)) hL.z ⟨hA.g.kept (k0.trans hu), hA.b.kept (k0.trans hu), hL.g, hL.b, hW.g, hW.b⟩ hgn
  unfold soundR
  cases hr : machR m
  · rw [hr] at hM
    have a0 := (X.out _ (Below.refl _ _)).m0
    have a1 := (X.out _ (Below.refl _ _)).m1
    have a2 := (X.out _ (Below.refl _ _)).m2
    have a3 := (X.out _ (Below.refl _ _)).m3
    have a4 := (X.out _ (Below.refl _ _)).m4
    have a5 := (X.out _ (Below.refl _ _)).m5
    have a6 := (X.out _ (Below.refl _ _)).m6
    have a7 := (X.out _ (Below.refl _ _)).m7
    have a8 := (X.out _ (Below.refl _ _)).m8
    have a9 := (X.out _ (Below.refl _ _)).m9
    have a10 := (X.out _ (Below.refl _ _)).m10
    have a11 := (X.out _ (Below.refl _ _)).m11
    clear hA hL hW hgn hFm hr k0
    go_enter Tryz.func12, Tryz.ntmps12
    go_upto_region 1 with (fail)
    try simp only [hW0]
    clear hW0
    go_wp2_with fail
    refine hM.mono ?_
    rintro e w1 ⟨rfl, k1⟩
    go_wp2_with fail
    go_ret
    exact ⟨rfl, Kept.trans HK0.out k1⟩
  · rw [hr] at hM
    obtain ⟨B, hB⟩ : ∃ B, triR m.zs m.ph m.gs m.bs m.at' = B := ⟨_, rfl⟩
    rw [hB] at HT ⊢
    have a0 := (X.out _ (Below.refl _ _)).m0
    have a1 := (X.out _ (Below.refl _ _)).m1
    have a2 := (X.out _ (Below.refl _ _)).m2
    have a3 := (X.out _ (Below.refl _ _)).m3
    have a4 := (X.out _ (Below.refl _ _)).m4
    have a5 := (X.out _ (Below.refl _ _)).m5
    have a6 := (X.out _ (Below.refl _ _)).m6
    have a7 := (X.out _ (Below.refl _ _)).m7
    have a8 := (X.out _ (Below.refl _ _)).m8
    have a9 := (X.out _ (Below.refl _ _)).m9
    have a10 := (X.out _ (Below.refl _ _)).m10
    have a11 := (X.out _ (Below.refl _ _)).m11
    clear hA hL hW hgn hFm hr k0 hB
    go_enter Tryz.func12, Tryz.ntmps12
    go_upto_region 1 with (fail)
    try simp only [hW0]
    clear hW0
    go_wp2_with fail
    refine hM.mono ?_
    rintro e w1 ⟨rfl, k1⟩
    have hT := HT.out _ k1
    clear hM a0 a1 a2 a3 a4 a5 a6 a7 a8 a9 a10 a11
    have a0 := (X.out _ k1).m0
    have a1 := (X.out _ k1).m1
    have a2 := (X.out _ k1).m2
    have a3 := (X.out _ k1).m3
    have a4 := (X.out _ k1).m4
    have a5 := (X.out _ k1).m5
    have a6 := (X.out _ k1).m6
    have a7 := (X.out _ k1).m7
    have a8 := (X.out _ k1).m8
    have a9 := (X.out _ k1).m9
    have a10 := (X.out _ k1).m10
    have a11 := (X.out _ k1).m11
    go_wp2_with fail
    refine hT.mono ?_
    rintro e w2 ⟨rfl, k2⟩
    go_wp2_with fail
    go_ret
    exact ⟨by simp, Kept.trans HK0.out (Kept.trans k1 k2)⟩
set_option maxHeartbeats 16000000 in
set_option maxRecDepth 100000 in
theorem spec_Sound_ok (w : World) (h : MchH) (m : Mch) (hA : MchA w h m) (hL : MchLe m) (hW : MchWf h m) (hkn : h.ka ≠ none) :
    Calls Tryz.prog 11 #[.agg (mchC h m)] w fun e w' => e = .returned (.bool (soundR m)) ∧ Kept w w' := by
  obtain ⟨W0, hW0⟩ : ∃ W0, w.alloc (.cells (mchC h m) 43) = W0 := ⟨_, rfl⟩
  have X : Hid (∀ u, Kept W0 u → Cells u w.heap.size 43 (mchC h m)) := fun u hu => (hW0 ▸ Cells.new w 43 (mchC h m) : Cells W0 _ _ _).kept hu
  have k0 : Kept w W0 := hW0 ▸ Kept.alloc (Below.refl _ _) _
  have HK0 : Hid (Kept w W0) := k0
  have hM := spec_MachineOk_ok W0 h m (hA.kept k0) hL hW hkn
  have HT : Hid (∀ u, Kept W0 u → Calls Tryz.prog 45 #[.agg #[.slice h.sa m.zs.length h.sc], .agg #[.int .i64 m.ph, .slice h.ga m.gs.length h.gc, .slice h.ba m.bs.length h.bc, .int .i64 m.at']] u fun e w' => e = .returned (.bool (triR m.zs m.ph m.gs m.bs m.at')) ∧ Kept u w') := fun u hu => spec_TriOk_ok u h.sa h.ga h.ba h.sc h.gc h.bc m.zs m.gs m.bs m.ph m.at' (hA.z.kept (k0.trans hu)) hL.z ⟨hA.g.kept (k0.trans hu), hA.b.kept (k0.trans hu), hL.g, hL.b, hW.g, hW.b⟩
  unfold soundR
  cases hr : machR m
  · rw [hr] at hM
    have a0 := (X.out _ (Below.refl _ _)).m0
    have a1 := (X.out _ (Below.refl _ _)).m1
    have a2 := (X.out _ (Below.refl _ _)).m2
    have a3 := (X.out _ (Below.refl _ _)).m3
    have a4 := (X.out _ (Below.refl _ _)).m4
    have a5 := (X.out _ (Below.refl _ _)).m5
    have a6 := (X.out _ (Below.refl _ _)).m6
    have a7 := (X.out _ (Below.refl _ _)).m7
    have a8 := (X.out _ (Below.refl _ _)).m8
    have a9 := (X.out _ (Below.refl _ _)).m9
    have a10 := (X.out _ (Below.refl _ _)).m10
    have a11 := (X.out _ (Below.refl _ _)).m11
    clear hA hL hW hkn hr k0
    go_enter Tryz.func11, Tryz.ntmps11
    go_upto_region 1 with (fail)
    try simp only [hW0]
    clear hW0
    go_wp2_with fail
    refine hM.mono ?_
    rintro e w1 ⟨rfl, k1⟩
    go_wp2_with fail
    go_ret
    exact ⟨rfl, Kept.trans HK0.out k1⟩
  · rw [hr] at hM
    obtain ⟨B, hB⟩ : ∃ B, triR m.zs m.ph m.gs m.bs m.at' = B := ⟨_, rfl⟩
    rw [hB] at HT ⊢
    have a0 := (X.out _ (Below.refl _ _)).m0
    have a1 := (X.out _ (Below.refl _ _)).m1
    have a2 := (X.out _ (Below.refl _ _)).m2
    have a3 := (X.out _ (Below.refl _ _)).m3
    have a4 := (X.out _ (Below.refl _ _)).m4
    have a5 := (X.out _ (Below.refl _ _)).m5
    have a6 := (X.out _ (Below.refl _ _)).m6
    have a7 := (X.out _ (Below.refl _ _)).m7
    have a8 := (X.out _ (Below.refl _ _)).m8
    have a9 := (X.out _ (Below.refl _ _)).m9
    have a10 := (X.out _ (Below.refl _ _)).m10
    have a11 := (X.out _ (Below.refl _ _)).m11
    clear hA hL hW hkn hr k0 hB
    go_enter Tryz.func11, Tryz.ntmps11
    go_upto_region 1 with (fail)
    try simp only [hW0]
    clear hW0
    go_wp2_with fail
    refine hM.mono ?_
    rintro e w1 ⟨rfl, k1⟩
    have hT := HT.out _ k1
    clear hM a0 a1 a2 a3 a4 a5 a6 a7 a8 a9 a10 a11
    have a0 := (X.out _ k1).m0
    have a1 := (X.out _ k1).m1
    have a2 := (X.out _ k1).m2
    have a3 := (X.out _ k1).m3
    have a4 := (X.out _ k1).m4
    have a5 := (X.out _ k1).m5
    have a6 := (X.out _ k1).m6
    have a7 := (X.out _ k1).m7
    have a8 := (X.out _ k1).m8
    have a9 := (X.out _ k1).m9
    have a10 := (X.out _ k1).m10
    have a11 := (X.out _ k1).m11
    go_wp2_with fail
    refine hT.mono ?_
    rintro e w2 ⟨rfl, k2⟩
    go_wp2_with fail
    go_ret
    exact ⟨by simp, Kept.trans HK0.out (Kept.trans k1 k2)⟩
end Go.Proofs.YtgempjjnfpmndaaGreatDoor
