/-
  The contract of chapter 8's model MarkerOk.
-/
import Derived.Test.YtgempjjnfpmndaaGreatDoorZMrkI
import Derived.Test.YtgempjjnfpmndaaGreatDoorGrpSq
namespace Go.Proofs.YtgempjjnfpmndaaGreatDoor
open Go.RowKit
attribute [local go_sem] Plain.and7

theorem blackR_no {gs bs : List Int} {k : Nat} (hk : k < bs.length) (h : blackB gs bs k = false) : blackR gs bs = false := by
  cases hq : blackR gs bs with
  | false => rfl
  | true =>
    have := allR_iff.1 hq k hk
    rw [h] at this
    cases this
/-- A marker whose lists are read. -/
structure MkI (W : World) (ga ba : Option Addr) (gc bc : Nat) (gs bs : List Int) : Prop where
  g : Ints W ga gs
  b : Ints W ba bs
  gl : gs.length ≤ 1048576
  bl : bs.length ≤ 1048576
  gc : gs.length ≤ gc
  bc : bs.length ≤ bc
theorem MkI.kept {W W' : World} {ga ba : Option Addr} {gc bc : Nat} {gs bs : List Int} (h : MkI W ga ba gc bc gs bs) (hk : Kept W W') : MkI W' ga ba gc bc gs bs := ⟨h.g.kept hk, h.b.kept hk, h.gl, h.bl, h.gc, h.bc⟩
set_option maxHeartbeats 16000000 in
set_option maxRecDepth 100000 in
theorem spec_MarkerOk_ok (w : World) (ao ga ba : Option Addr) (cap gc bc : Nat) (zs gs bs : List Int) (ph at' : Int) (hI : Ints w ao zs) (hl : zs.length ≤ 1048576) (hm : MkI w ga ba gc bc gs bs) :
    Calls Tryz.prog 70 #[.agg #[.slice ao zs.length cap], .agg #[.int .i64 ph, .slice ga gs.length gc, .slice ba bs.length bc, .int .i64 at']] w fun e w' => e = .returned (.bool (markR zs ph gs bs at')) ∧ Kept w w' := by
  have hL : zs.length * 8 ≤ 140737488351232 := by omega
  have b0 := (Cells.new w 39 #[.slice ao zs.length cap]).alloc (.cells #[.int .i64 ph, .slice ga gs.length gc, .slice ba bs.length bc, .int .i64 at'] 40)
  have b1 := Cells.new (w.alloc (.cells #[.slice ao zs.length cap] 39)) 40 #[.int .i64 ph, .slice ga gs.length gc, .slice ba bs.length bc, .int .i64 at']
  have k0 : Kept w ((w.alloc (.cells #[.slice ao zs.length cap] 39)).alloc (.cells #[.int .i64 ph, .slice ga gs.length gc, .slice ba bs.length bc, .int .i64 at'] 40)) := (Kept.alloc (Below.refl _ _) _).alloc _
  simp only [World.size_alloc] at b1
  have HI : Hid (Ints w ao zs) := hI
  have HG : Hid (Ints w ga gs) := hm.g
  have HB : Hid (Ints w ba bs) := hm.b
  have hgl := hm.gl
  have hbl := hm.bl
  have hSO := fun (u : World) (hu : Kept w u) => spec_SlabOk_ok u ao cap zs (Ints.kept HI.out hu) hL
  cases hok : slabOk zs with
  | false =>
    have HE : Hid (markR zs ph gs bs at' = false) := by simp [Hid, markR, hok]
    rw [hok] at hSO
    clear hok hm hI
    go_enter Tryz.func70, Tryz.ntmps70
    go_upto_region 1 with (fail)
    obtain ⟨WX, hWX⟩ : ∃ WX, (w.alloc (.cells #[.slice ao zs.length cap] 39)).alloc (.cells #[.int .i64 ph, .slice ga gs.length gc, .slice ba bs.length bc, .int .i64 at'] 40) = WX := ⟨_, rfl⟩
    rw [hWX] at b0 b1 k0
    simp only [hWX]
    have HX0 : Hid (∀ u, Kept WX u → Cells u w.heap.size 39 #[.slice ao zs.length cap]) := fun u hu => b0.kept hu
    have HX1 : Hid (∀ u, Kept WX u → Cells u (w.heap.size + 1) 40 #[.int .i64 ph, .slice ga gs.length gc, .slice ba bs.length bc, .int .i64 at']) := fun u hu => b1.kept hu
    have HKX : Hid (Kept w WX) := k0
    have s0 := (HX0.out WX (Below.refl _ _)).cell 0
    clear hWX b0 b1 k0
    go_wp2_with (first | (go_at_call 115; refine (hSO _ HKX.out).mono ?_; rintro e w1 ⟨rfl, hk1⟩; have s1 := (HX0.out w1 hk1).cell 0; have m10 := (HX1.out w1 hk1).cell 0; have m11 := (HX1.out w1 hk1).cell 1))
    go_ret
    exact ⟨by rw [HE.out]; rfl, Kept.trans HKX.out hk1⟩
  | true =>
    rw [hok] at hSO
    by_cases hph : 0 ≤ ph ∧ ph ≤ 2
    · have hIn3 := fun (u : World) => l1In_yes ph 0 2 u hph.1 hph.2
      have hPG := fun (u : World) (hu : Kept w u) => l8Places_ok u ao ga cap gc zs gs (Ints.kept HI.out hu) hl hok (Ints.kept HG.out hu) hgl hm.gc
      have hPB := fun (u : World) (hu : Kept w u) => l8Places_ok u ao ba cap bc zs bs (Ints.kept HI.out hu) hl hok (Ints.kept HB.out hu) hbl hm.bc
      have tok1 : True := trivial
      cases hpg : placesR zs gs with
      | false =>
        have HE : Hid (markR zs ph gs bs at' = false) := by simp [Hid, markR, hpg]
        rw [hpg] at hPG
        clear hok hm hI hpg hph hPB
        go_enter Tryz.func70, Tryz.ntmps70
        go_upto_region 1 with (fail)
        obtain ⟨WX, hWX⟩ : ∃ WX, (w.alloc (.cells #[.slice ao zs.length cap] 39)).alloc (.cells #[.int .i64 ph, .slice ga gs.length gc, .slice ba bs.length bc, .int .i64 at'] 40) = WX := ⟨_, rfl⟩
        rw [hWX] at b0 b1 k0
        simp only [hWX]
        have HX0 : Hid (∀ u, Kept WX u → Cells u w.heap.size 39 #[.slice ao zs.length cap]) := fun u hu => b0.kept hu
        have HX1 : Hid (∀ u, Kept WX u → Cells u (w.heap.size + 1) 40 #[.int .i64 ph, .slice ga gs.length gc, .slice ba bs.length bc, .int .i64 at']) := fun u hu => b1.kept hu
        have HKX : Hid (Kept w WX) := k0
        have s0 := (HX0.out WX (Below.refl _ _)).cell 0
        clear hWX b0 b1 k0
        go_wp2_with (first | (go_at_call 115; refine (hSO _ HKX.out).mono ?_; rintro e w1 ⟨rfl, hk1⟩; have s1 := (HX0.out w1 hk1).cell 0; have m10 := (HX1.out w1 hk1).cell 0; have m11 := (HX1.out w1 hk1).cell 1) | (go_at_call 71; refine (hIn3 _).mono ?_; rintro e wx ⟨rfl, rfl⟩) | (go_at_call 116; have _t := tok1; refine (hPG _ (Kept.trans HKX.out hk1)).mono ?_; rintro e w2 ⟨rfl, hk2⟩; have hk12 : Kept WX w2 := Kept.trans hk1 hk2; have s2 := (HX0.out w2 hk12).cell 0; have m22 := (HX1.out w2 hk12).cell 2; clear tok1))
        go_ret
        exact ⟨by rw [HE.out]; rfl, Kept.trans HKX.out hk12⟩
      | true =>
        rw [hpg] at hPG
        cases hpb : placesR zs bs with
        | false =>
          have HE : Hid (markR zs ph gs bs at' = false) := by simp [Hid, markR, hpb]
          rw [hpb] at hPB
          clear hok hm hI hpg hpb hph
          go_enter Tryz.func70, Tryz.ntmps70
          go_upto_region 1 with (fail)
          obtain ⟨WX, hWX⟩ : ∃ WX, (w.alloc (.cells #[.slice ao zs.length cap] 39)).alloc (.cells #[.int .i64 ph, .slice ga gs.length gc, .slice ba bs.length bc, .int .i64 at'] 40) = WX := ⟨_, rfl⟩
          rw [hWX] at b0 b1 k0
          simp only [hWX]
          have HX0 : Hid (∀ u, Kept WX u → Cells u w.heap.size 39 #[.slice ao zs.length cap]) := fun u hu => b0.kept hu
          have HX1 : Hid (∀ u, Kept WX u → Cells u (w.heap.size + 1) 40 #[.int .i64 ph, .slice ga gs.length gc, .slice ba bs.length bc, .int .i64 at']) := fun u hu => b1.kept hu
          have HKX : Hid (Kept w WX) := k0
          have s0 := (HX0.out WX (Below.refl _ _)).cell 0
          clear hWX b0 b1 k0
          go_wp2_with (first | (go_at_call 115; refine (hSO _ HKX.out).mono ?_; rintro e w1 ⟨rfl, hk1⟩; have s1 := (HX0.out w1 hk1).cell 0; have m10 := (HX1.out w1 hk1).cell 0; have m11 := (HX1.out w1 hk1).cell 1) | (go_at_call 71; refine (hIn3 _).mono ?_; rintro e wx ⟨rfl, rfl⟩) | (go_at_call 116; have _t := tok1; refine (hPG _ (Kept.trans HKX.out hk1)).mono ?_; rintro e w2 ⟨rfl, hk2⟩; have hk12 : Kept WX w2 := Kept.trans hk1 hk2; have s2 := (HX0.out w2 hk12).cell 0; have m22 := (HX1.out w2 hk12).cell 2; clear tok1) | (go_at_call 116; refine (hPB _ (Kept.trans HKX.out hk12)).mono ?_; rintro e w3 ⟨rfl, hk3⟩; have hk13 : Kept WX w3 := Kept.trans hk12 hk3))
          go_ret
          exact ⟨by rw [HE.out]; rfl, Kept.trans HKX.out hk13⟩
        | true =>
          rw [hpb] at hPB
          have HR : Hid (markR zs ph gs bs at' = (blackR gs bs && (if ph = 0 then decide (gs = [] ∧ bs = []) && decide (at' = 0) && heapR zs else if ph = 1 then decide (at' = 0) && heapR zs else sweptR zs gs bs at'))) := by rw [Hid, markR, hok, hpg, hpb]; simp [hph]
          have HHe : Hid (∀ u, Kept w u → Calls Tryz.prog 117 #[.agg #[.slice ao zs.length cap]] u fun e w' => e = .returned (.bool (heapR zs)) ∧ Kept u w') := fun u hu => spec_HeapOk_ok u ao cap zs (Ints.kept HI.out hu) hl
          have HSw : Hid (∀ u, Kept w u → Calls Tryz.prog 118 #[.agg #[.slice ao zs.length cap], .agg #[.int .i64 ph, .slice ga gs.length gc, .slice ba bs.length bc, .int .i64 at']] u fun e w' => e = .returned (.bool (sweptR zs gs bs at')) ∧ Kept u w') := fun u hu => l8Swept_ok u ao ga ba cap gc bc zs gs bs ph at' (Ints.kept HI.out hu) hl hok (Ints.kept HB.out hu) hbl (places_iff.1 hpb)
          have HPh : Hid (0 ≤ ph ∧ ph ≤ 2) := hph
          clear hok hm hI hpg hpb hph
          go_enter Tryz.func70, Tryz.ntmps70
          go_upto_region 1 with (fail)
          obtain ⟨WX, hWX⟩ : ∃ WX, (w.alloc (.cells #[.slice ao zs.length cap] 39)).alloc (.cells #[.int .i64 ph, .slice ga gs.length gc, .slice ba bs.length bc, .int .i64 at'] 40) = WX := ⟨_, rfl⟩
          rw [hWX] at b0 b1 k0
          simp only [hWX]
          have HX0 : Hid (∀ u, Kept WX u → Cells u w.heap.size 39 #[.slice ao zs.length cap]) := fun u hu => b0.kept hu
          have HX1 : Hid (∀ u, Kept WX u → Cells u (w.heap.size + 1) 40 #[.int .i64 ph, .slice ga gs.length gc, .slice ba bs.length bc, .int .i64 at']) := fun u hu => b1.kept hu
          have HKX : Hid (Kept w WX) := k0
          have s0 := (HX0.out WX (Below.refl _ _)).cell 0
          clear hWX b0 b1 k0
          go_upto_region 3 with (first | (go_at_call 115; refine (hSO _ HKX.out).mono ?_; rintro e w1 ⟨rfl, hk1⟩; have s1 := (HX0.out w1 hk1).cell 0; have m10 := (HX1.out w1 hk1).cell 0; have m11 := (HX1.out w1 hk1).cell 1) | (go_at_call 71; refine (hIn3 _).mono ?_; rintro e wx ⟨rfl, rfl⟩) | (go_at_call 116; have _t := tok1; refine (hPG _ (Kept.trans HKX.out hk1)).mono ?_; rintro e w2 ⟨rfl, hk2⟩; have hk12 : Kept WX w2 := Kept.trans hk1 hk2; have s2 := (HX0.out w2 hk12).cell 0; have m22 := (HX1.out w2 hk12).cell 2; clear tok1) | (go_at_call 116; refine (hPB _ (Kept.trans HKX.out hk12)).mono ?_; rintro e w3 ⟨rfl, hk3⟩; have hk13 : Kept WX w3 := Kept.trans hk12 hk3))
          have HK3 : Hid (Kept WX w3) := hk13
          clear s0 s1 m10 m11 s2 m22 hk1 hk2 hk12 hk13 hk3 hSO hIn3 hPG hPB
          go_wp2_with fail
          go_loopw [5] (fun i wr => ∃ k : Nat, i = .int .i64 k ∧ k ≤ bs.length ∧ Hid (∀ j, j < k → blackB gs bs j = true) ∧ Kept WX wr) (fun i _ => bs.length - (intOf i).toNat)
          case atStart => exact ⟨0, rfl, Nat.zero_le _, fun j hj => by omega, HK3.out⟩
          case round =>
            obtain ⟨k, rfl, hk, HY, hK⟩ := hrel
            have m2 := (HX1.out _ hK).cell 2
            have m0 := (HX1.out _ hK).cell 0
            have m1 := (HX1.out _ hK).cell 1
            have m3 := (HX1.out _ hK).cell 3
            have s0 := (HX0.out _ hK).cell 0
            by_cases hlt : k < bs.length
            · obtain ⟨b1, o1, e1, hc1⟩ := Ints.at (Ints.kept HB.out (Kept.trans HKX.out hK)) hlt
              have c1 := hc1 k hlt
              have cp := hc1 (k - 1) (by omega)
              have lb1 : b1 < wr.heap.size := World.block_lt_of_cell? _ _ c1
              have kd7 : ∀ u, Kept wr.drew u → Kept wr u := fun u hu => Kept.trans (Below.refl _ wr).drew hu
              have y0 : ∀ u, Kept wr.drew u → u.cell? ⟨w.heap.size + 1, 1, none⟩ = some (.slice ga gs.length gc) := fun u hu => (HX1.out u (Kept.trans hK (kd7 u hu))).cell 1
              have y1 : ∀ u, Kept wr.drew u → u.cell? ⟨w.heap.size + 1, 2, none⟩ = some (.slice (some ⟨b1, o1, none⟩) bs.length bc) := fun u hu => by
                have := (HX1.out u (Kept.trans hK (kd7 u hu))).cell 2
                rw [e1] at this
                exact this
              have y2 : ∀ u, Kept wr.drew u → u.cell? ⟨b1, o1 + k, none⟩ = some (.int .i64 (hz bs k)) := fun u hu => ((kd7 u hu).cell (p := ⟨b1, o1 + k, none⟩) lb1).trans c1
              have y3 : ∀ u, Kept wr.drew u → u.cell? ⟨b1, o1 + (k - 1), none⟩ = some (.int .i64 (hz bs (k - 1))) := fun u hu => ((kd7 u hu).cell (p := ⟨b1, o1 + (k - 1), none⟩) lb1).trans cp
              have HKW : Hid (∀ u, Kept wr.drew u → Kept WX u) := fun u hu => Kept.trans hK (kd7 u hu)
              have q1 : (k : Int) < (bs.length : Int) := by omega
              have q0 : (0 : Int) ≤ (k : Int) := by omega
              obtain ⟨r, hr⟩ : ∃ r, decide (hz bs k ∈ gs) = r := ⟨_, rfl⟩
              have C1 : Hid (∀ u, Kept wr.drew u → Calls Tryz.prog 76 #[.slice ga gs.length gc, .int .i64 (hz bs k)] u fun e w' => e = .returned (.bool r) ∧ Kept u w') := fun u hu => by
                have := l7In_ok u ga gc gs (hz bs k) (Ints.kept HG.out (Kept.trans HKX.out (HKW.out u hu))) hgl
                rw [hr] at this
                exact calls_kept this
              have HBB : Hid (blackB gs bs k = (!r && (decide (k = 0) || decide (hz bs (k - 1) ≤ hz bs k)))) := by rw [Hid, blackB, hr]
              subst e1
              clear hc1 c1 cp hr hK m0 m1 m3 s0
              cases r with
              | true =>
                have HE : Hid (markR zs ph gs bs at' = false) := by rw [Hid, HR.out, blackR_no hlt (by rw [HBB.out]; rfl)]; rfl
                go_wp2_with fail
                refine wp_region_seqL (by kernel_rfl) (by kernel_rfl) ?_
                repeat (first
                  | (refine SeqL.skip (by rfl) ?_; simp only [Act.put, List.setIfInBounds_toArray, List.set_cons_zero, List.set_cons_succ])
                  | (refine SeqL.pure ?_ (by rfl) ?_ ?_; rotate_left; (focus (intro u hu; have y0' := y0 u hu; have y1' := y1 u hu; have y2' := y2 u hu; go_simp; first | done | exact rfl)); simp only [Act.put, List.setIfInBounds_toArray, List.set_cons_zero, List.set_cons_succ])
                  | (refine SeqL.call _ _ _ (by rfl) ?_ C1.out ?_; (focus (intro u; go_simp; done)); simp only [Act.put, List.setIfInBounds_toArray, List.set_cons_zero, List.set_cons_succ]))
                refine SeqL.nil ?_
                intro w5 hu5
                have K5 := Kept.trans HKX.out (HKW.out w5 hu5)
                clear y0 y1 y2 y3 C1 kd7
                go_wp2_with fail
                go_ret
                exact ⟨by rw [HE.out]; rfl, K5⟩
              | false =>
                cases k with
                | zero =>
                  have HB1 : Hid (blackB gs bs 0 = true) := by rw [Hid, HBB.out]; rfl
                  have y2z : ∀ u, Kept wr.drew u → u.cell? ⟨b1, o1, none⟩ = some (.int .i64 (hz bs 0)) := fun u hu => by simpa using y2 u hu
                  go_wp2_with fail
                  refine wp_region_seqL (by kernel_rfl) (by kernel_rfl) ?_
                  repeat (first
                    | (refine SeqL.skip (by rfl) ?_; simp only [Act.put, List.setIfInBounds_toArray, List.set_cons_zero, List.set_cons_succ])
                    | (refine SeqL.pure ?_ (by rfl) ?_ ?_; rotate_left; (focus (intro u hu; have y0' := y0 u hu; have y1' := y1 u hu; have y2' := y2 u hu; have y2z' := y2z u hu; go_simp; first | done | exact rfl)); simp only [Act.put, List.setIfInBounds_toArray, List.set_cons_zero, List.set_cons_succ])
                    | (refine SeqL.call _ _ _ (by rfl) ?_ C1.out ?_; (focus (intro u; go_simp; done)); simp only [Act.put, List.setIfInBounds_toArray, List.set_cons_zero, List.set_cons_succ]))
                  refine SeqL.nil ?_
                  intro w5 hu5
                  have K5 := HKW.out w5 hu5
                  clear y0 y1 y2 y2z y3 C1 kd7
                  go_wp2_with fail
                  go_roundw
                  case rel =>
                    refine ⟨1, by go_num, by omega, fun j hj => ?_, K5⟩
                    obtain rfl : j = 0 := by omega
                    exact HB1.out
                  case measure => simp [intOf]; omega
                | succ k =>
                  simp only [Nat.add_sub_cancel] at y3 HBB
                  have z1 : (0 : Int) < (k : Int) + 1 := by omega
                  have z2 : (k : Int) < (bs.length : Int) := by omega
                  have z3 : (0 : Int) ≤ (k : Int) := by omega
                  have wr1 : IntKind.i64.wrap ((k : Int) + 1 - 1) = (k : Int) := by rw [IntWalk.i64_left, IntWalk.wrap64_in _ (by omega)]; omega
                  have t1 : ((k : Int) + 1).toNat = k + 1 := by omega
                  have wr2 : IntKind.i64.wrap (((k + 1 : Nat) : Int) - 1) = (k : Int) := by rw [IntWalk.i64_left, IntWalk.wrap64_in _ (by omega)]; omega
                  have wr3 : IntKind.i64.wrap (k : Int) = (k : Int) := by rw [IntWalk.i64_left, IntWalk.wrap64_in _ (by omega)]
                  have t2 : ((k : Int)).toNat = k := by omega
                  by_cases hle : hz bs k ≤ hz bs (k + 1)
                  · have hd : decide (hz bs (k + 1) < hz bs k) = false := by simp; omega
                    have HB1 : Hid (blackB gs bs (k + 1) = true) := by rw [Hid, HBB.out]; simp [hle]
                    clear hle
                    go_wp2_with fail
                    refine wp_region_seqL (by kernel_rfl) (by kernel_rfl) ?_
                    repeat (first
                      | (refine SeqL.skip (by rfl) ?_; simp only [Act.put, List.setIfInBounds_toArray, List.set_cons_zero, List.set_cons_succ])
                      | (refine SeqL.pure ?_ (by rfl) ?_ ?_; rotate_left; (focus (intro u hu; have y0' := y0 u hu; have y1' := y1 u hu; have y2' := y2 u hu; have y3' := y3 u hu; go_simp; first | done | exact rfl)); simp only [Act.put, List.setIfInBounds_toArray, List.set_cons_zero, List.set_cons_succ])
                      | (refine SeqL.call _ _ _ (by rfl) ?_ C1.out ?_; (focus (intro u; go_simp; done)); simp only [Act.put, List.setIfInBounds_toArray, List.set_cons_zero, List.set_cons_succ]))
                    refine SeqL.nil ?_
                    intro w5 hu5
                    have K5 := HKW.out w5 hu5
                    clear y0 y1 y2 y3 C1 kd7
                    go_wp2_with fail
                    go_roundw
                    case rel =>
                      refine ⟨k + 1 + 1, by go_num, by omega, fun j hj => ?_, K5⟩
                      rcases Nat.lt_or_ge j (k + 1) with h | h
                      · exact HY.out j h
                      · obtain rfl : j = k + 1 := by omega
                        exact HB1.out
                    case measure => simp [intOf]; omega
                  · have hd : decide (hz bs (k + 1) < hz bs k) = true := by simp; omega
                    have HE : Hid (markR zs ph gs bs at' = false) := by rw [Hid, HR.out, blackR_no hlt (by rw [HBB.out]; simp [hle])]; rfl
                    clear hle
                    go_wp2_with fail
                    refine wp_region_seqL (by kernel_rfl) (by kernel_rfl) ?_
                    repeat (first
                      | (refine SeqL.skip (by rfl) ?_; simp only [Act.put, List.setIfInBounds_toArray, List.set_cons_zero, List.set_cons_succ])
                      | (refine SeqL.pure ?_ (by rfl) ?_ ?_; rotate_left; (focus (intro u hu; have y0' := y0 u hu; have y1' := y1 u hu; have y2' := y2 u hu; have y3' := y3 u hu; go_simp; first | done | exact rfl)); simp only [Act.put, List.setIfInBounds_toArray, List.set_cons_zero, List.set_cons_succ])
                      | (refine SeqL.call _ _ _ (by rfl) ?_ C1.out ?_; (focus (intro u; go_simp; done)); simp only [Act.put, List.setIfInBounds_toArray, List.set_cons_zero, List.set_cons_succ]))
                    refine SeqL.nil ?_
                    intro w5 hu5
                    have K5 := Kept.trans HKX.out (HKW.out w5 hu5)
                    clear y0 y1 y2 y3 C1 kd7
                    go_wp2_with fail
                    go_ret
                    exact ⟨by rw [HE.out]; rfl, K5⟩
            · obtain rfl : k = bs.length := by omega
              have HR2 : Hid (markR zs ph gs bs at' = (if ph = 0 then decide (gs = [] ∧ bs = []) && decide (at' = 0) && heapR zs else if ph = 1 then decide (at' = 0) && heapR zs else sweptR zs gs bs at')) := by
                rw [Hid, HR.out, show blackR gs bs = true from allR_iff.2 HY.out]
                rfl
              have HK5 : Hid (Kept WX wr) := hK
              have hHe := HHe.out wr (Kept.trans HKX.out hK)
              have hSw := HSw.out wr (Kept.trans HKX.out hK)
              clear hK
              rcases (show ph = 0 ∨ ph = 1 ∨ ph = 2 by have := HPh.out; omega) with h | h | h
              · have HR3 : Hid (markR zs ph gs bs at' = (decide (gs = [] ∧ bs = []) && decide (at' = 0) && heapR zs)) := by rw [Hid, HR2.out, if_pos h]
                subst h
                by_cases hg : gs = [] ∧ bs = []
                · have hsum : ((gs.length : Int) + (bs.length : Int) == 0) = true := by rw [hg.1, hg.2]; rfl
                  have g0 : gs.length = 0 := by rw [hg.1]; rfl
                  have g1 : bs.length = 0 := by rw [hg.2]; rfl
                  by_cases ha : at' = 0
                  · have hda : (at' == 0) = true := by simpa using ha
                    have HE : Hid (markR zs 0 gs bs at' = heapR zs) := by rw [Hid, HR3.out]; simp [hg, ha]
                    clear ha hg g0 g1
                    go_wp2_with (go_at_call 117; refine hHe.mono ?_; rintro e w9 ⟨rfl, hk9⟩)
                    go_ret
                    exact ⟨by rw [HE.out]; rfl, Kept.trans HKX.out (Kept.trans HK5.out hk9)⟩
                  · have hda : (at' == 0) = false := by simpa using ha
                    have HE : Hid (markR zs 0 gs bs at' = false) := by rw [Hid, HR3.out]; simp [ha]
                    clear ha hg g0 g1
                    go_wp2_with fail
                    go_ret
                    exact ⟨by rw [HE.out]; rfl, Kept.trans HKX.out HK5.out⟩
                · have hsum : ((gs.length : Int) + (bs.length : Int) == 0) = false := by
                    have : ¬ (gs.length = 0 ∧ bs.length = 0) := fun h => hg ⟨List.eq_nil_of_length_eq_zero h.1, List.eq_nil_of_length_eq_zero h.2⟩
                    simp
                    omega
                  have HE : Hid (markR zs 0 gs bs at' = false) := by rw [Hid, HR3.out]; simp [hg]
                  clear hg
                  go_wp2_with fail
                  go_ret
                  exact ⟨by rw [HE.out]; rfl, Kept.trans HKX.out HK5.out⟩
              · have HR3 : Hid (markR zs ph gs bs at' = (decide (at' = 0) && heapR zs)) := by rw [Hid, HR2.out, if_neg (by omega), if_pos h]
                subst h
                by_cases ha : at' = 0
                · have hda : (at' == 0) = true := by simpa using ha
                  have HE : Hid (markR zs 1 gs bs at' = heapR zs) := by rw [Hid, HR3.out]; simp [ha]
                  clear ha
                  go_wp2_with (go_at_call 117; refine hHe.mono ?_; rintro e w9 ⟨rfl, hk9⟩)
                  go_ret
                  exact ⟨by rw [HE.out]; rfl, Kept.trans HKX.out (Kept.trans HK5.out hk9)⟩
                · have hda : (at' == 0) = false := by simpa using ha
                  have HE : Hid (markR zs 1 gs bs at' = false) := by rw [Hid, HR3.out]; simp [ha]
                  clear ha
                  go_wp2_with fail
                  go_ret
                  exact ⟨by rw [HE.out]; rfl, Kept.trans HKX.out HK5.out⟩
              · have HE : Hid (markR zs ph gs bs at' = sweptR zs gs bs at') := by rw [Hid, HR2.out, if_neg (by omega), if_neg (by omega)]
                subst h
                go_wp2_with (go_at_call 118; refine hSw.mono ?_; rintro e w9 ⟨rfl, hk9⟩)
                go_ret
                exact ⟨by rw [HE.out]; rfl, Kept.trans HKX.out (Kept.trans HK5.out hk9)⟩
    · have hIn3 := fun (u : World) => l1In_no ph 0 2 u (by omega)
      have HE : Hid (markR zs ph gs bs at' = false) := by simp [Hid, markR, hph]
      clear hok hm hI hph
      go_enter Tryz.func70, Tryz.ntmps70
      go_upto_region 1 with (fail)
      obtain ⟨WX, hWX⟩ : ∃ WX, (w.alloc (.cells #[.slice ao zs.length cap] 39)).alloc (.cells #[.int .i64 ph, .slice ga gs.length gc, .slice ba bs.length bc, .int .i64 at'] 40) = WX := ⟨_, rfl⟩
      rw [hWX] at b0 b1 k0
      simp only [hWX]
      have HX0 : Hid (∀ u, Kept WX u → Cells u w.heap.size 39 #[.slice ao zs.length cap]) := fun u hu => b0.kept hu
      have HX1 : Hid (∀ u, Kept WX u → Cells u (w.heap.size + 1) 40 #[.int .i64 ph, .slice ga gs.length gc, .slice ba bs.length bc, .int .i64 at']) := fun u hu => b1.kept hu
      have HKX : Hid (Kept w WX) := k0
      have s0 := (HX0.out WX (Below.refl _ _)).cell 0
      clear hWX b0 b1 k0
      go_wp2_with (first | (go_at_call 115; refine (hSO _ HKX.out).mono ?_; rintro e w1 ⟨rfl, hk1⟩; have s1 := (HX0.out w1 hk1).cell 0; have m10 := (HX1.out w1 hk1).cell 0; have m11 := (HX1.out w1 hk1).cell 1) | (go_at_call 71; refine (hIn3 _).mono ?_; rintro e wx ⟨rfl, rfl⟩))
      go_ret
      exact ⟨by rw [HE.out]; rfl, Kept.trans HKX.out hk1⟩
end Go.Proofs.YtgempjjnfpmndaaGreatDoor
