/-
  The contract of chapter 8's model l8Swept.
-/
import Derived.Deep.RegionHeld3
import Derived.Deep.CutRange
import Derived.Test.YtgempjjnfpmndaaGreatDoorGrpKa
import Derived.Test.YtgempjjnfpmndaaGreatDoorGrpSn
import Derived.Test.YtgempjjnfpmndaaGreatDoorZShapeB
namespace Go.Proofs.YtgempjjnfpmndaaGreatDoor
open Go.RowKit
attribute [local go_sem] Plain.and7

theorem isAt_le {zs : List Int} {x : Int} (h : isAt zs x = true) : 0 ≤ x ∧ x ≤ (zs.length : Int) := by
  obtain ⟨p, e, hp, _⟩ := isAt_kind h
  omega
theorem holds_no {zs bs l : List Int} {k : Nat} (hk : k < l.length) (h : holdR zs bs (hz l k) = false) : l.all (holdR zs bs) = false := by
  cases hq : l.all (holdR zs bs) with
  | false => rfl
  | true =>
    have := List.all_eq_true.1 hq _ (hz_mem hk)
    rw [h] at this
    cases this
theorem holds_yes {zs bs l : List Int} (h : ∀ j, j < l.length → holdR zs bs (hz l j) = true) : l.all (holdR zs bs) = true := by
  rw [List.all_eq_true]
  intro x hx
  obtain ⟨j, hj, e⟩ := List.getElem_of_mem hx
  have := h j hj
  rw [hz_get hj, e] at this
  exact this
theorem among_no {bs l : List Int} {k : Nat} (hk : k < l.length) (h : amongV bs (hz l k) = false) : l.all (amongV bs) = false := by
  cases hq : l.all (amongV bs) with
  | false => rfl
  | true =>
    have := List.all_eq_true.1 hq _ (hz_mem hk)
    rw [h] at this
    cases this
theorem among_yes {bs l : List Int} (h : ∀ j, j < l.length → amongV bs (hz l j) = true) : l.all (amongV bs) = true := by
  rw [List.all_eq_true]
  intro x hx
  obtain ⟨j, hj, e⟩ := List.getElem_of_mem hx
  have := h j hj
  rw [hz_get hj, e] at this
  exact this
set_option maxHeartbeats 16000000 in
set_option maxRecDepth 100000 in
theorem l8Swept_ok (w : World) (ao ga ba : Option Addr) (cap gc bc : Nat) (zs gs bs : List Int) (ph at' : Int) (hI : Ints w ao zs) (hl : zs.length ≤ 1048576) (hok : slabOk zs = true) (hB : Ints w ba bs) (hbl : bs.length ≤ 1048576) (hM : Met zs bs) :
    Calls Tryz.prog 118 #[.agg #[.slice ao zs.length cap], .agg #[.int .i64 ph, .slice ga gs.length gc, .slice ba bs.length bc, .int .i64 at']] w fun e w' => e = .returned (.bool (sweptR zs gs bs at')) ∧ Kept w w' := by
  have hL : zs.length * 8 ≤ 140737488351232 := by omega
  have b0 := (Cells.new w 39 #[.slice ao zs.length cap]).alloc (.cells #[.int .i64 ph, .slice ga gs.length gc, .slice ba bs.length bc, .int .i64 at'] 40)
  have b1 := Cells.new (w.alloc (.cells #[.slice ao zs.length cap] 39)) 40 #[.int .i64 ph, .slice ga gs.length gc, .slice ba bs.length bc, .int .i64 at']
  have k0 : Kept w ((w.alloc (.cells #[.slice ao zs.length cap] 39)).alloc (.cells #[.int .i64 ph, .slice ga gs.length gc, .slice ba bs.length bc, .int .i64 at'] 40)) := (Kept.alloc (Below.refl _ _) _).alloc _
  simp only [World.size_alloc] at b1
  have HO : Hid (slabOk zs = true) := hok
  have HI : Hid (Ints w ao zs) := hI
  have HB : Hid (Ints w ba bs) := hB
  have HM : Hid (Met zs bs) := hM
  have HIs : Hid _ := fun (u : World) (hu : Kept w u) => l2Is_ok u ao cap zs at' (Ints.kept HI.out hu) hL HO.out
  clear hok hI hB hM
  by_cases hg : gs = []
  · subst hg
    simp only [List.length_nil] at b0 b1 k0 ⊢
    by_cases ha : at' = (zs.length : Int)
    · subst ha
      have HS2 : Hid (sweptR zs [] bs (zs.length : Int) = (passR zs bs (zs.length : Int) && bs.all (holdR zs bs))) := by rw [Hid, sweptR]; simp
      have ha0 : (0 : Int) ≤ (zs.length : Int) := by omega
      have ha1 : (zs.length : Int) ≤ (zs.length : Int) := Int.le_refl _
      clear HIs
      go_enter Tryz.func118, Tryz.ntmps118
      go_upto_region 1 with (fail)
      obtain ⟨WX, hWX⟩ : ∃ WX, (w.alloc (.cells #[.slice ao zs.length cap] 39)).alloc (.cells #[.int .i64 ph, .slice ga 0 gc, .slice ba bs.length bc, .int .i64 (zs.length : Int)] 40) = WX := ⟨_, rfl⟩
      rw [hWX] at b0 b1 k0
      simp only [hWX]
      have HX0 : Hid (∀ u, Kept WX u → Cells u w.heap.size 39 #[.slice ao zs.length cap]) := fun u hu => b0.kept hu
      have HX1 : Hid (∀ u, Kept WX u → Cells u (w.heap.size + 1) 40 #[.int .i64 ph, .slice ga 0 gc, .slice ba bs.length bc, .int .i64 (zs.length : Int)]) := fun u hu => b1.kept hu
      have HKX : Hid (Kept w WX) := k0
      have m1 := (HX1.out WX (Below.refl _ _)).cell 1
      have m3 := (HX1.out WX (Below.refl _ _)).cell 3
      have s0 := (HX0.out WX (Below.refl _ _)).cell 0
      clear hWX b0 b1 k0
      have HK0 : Kept WX WX := Below.refl _ _
      go_wp2_with fail
      clear m1 m3 s0
      go_loopw [5] (fun i wr => ∃ k : Nat, i = .int .i64 k ∧ At zs k ∧ Passed zs bs (zs.length : Int) k ∧ Kept WX wr) (fun i _ => zs.length - (intOf i).toNat)
      case atStart => exact ⟨0, rfl, At.zero zs, Passed.zero _ _ _, HK0⟩
      case round =>
        obtain ⟨k, rfl, hat, hP, hK⟩ := hrel
        have m3 := (HX1.out _ hK).cell 3
        have m2 := (HX1.out _ hK).cell 2
        have s0 := (HX0.out _ hK).cell 0
        by_cases hka : (k : Int) < (zs.length : Int)
        · have hlt : k < zs.length := by omega
          have hg := hat.good HO.out hlt
          have HA : Hid (At zs (k + sz zs k)) := hat.next hg
          have HS : Hid ((sz zs k : Int) = hz zs k / 8) := hg.szI
          have hle := hg.le
          have hs2 := hg.sz2
          have g2 := hg.2.2.1
          have g3 := hg.2.2.2
          have hkI := kdI zs k
          obtain ⟨bb, off, e, hcI⟩ := Ints.at (Ints.kept HI.out (Kept.trans HKX.out hK)) hlt
          have ck := hcI k hlt
          have q1 : (k : Int) < (zs.length : Int) := by omega
          have q0 : (0 : Int) ≤ (k : Int) := by omega
          have hpu : passB bs (zs.length : Int) k (kd zs k) = (decide (hz zs k % 8 = 0) || decide ((k : Int) ∈ bs)) := by
            unfold passB
            have e1 : decide ((zs.length : Int) ≤ (k : Int)) = false := by simp; omega
            have e2 : decide (kd zs k = 0) = decide (hz zs k % 8 = 0) := by rw [decide_eq_decide]; omega
            rw [e1, e2, Bool.false_or]
          have hIn := l7In_ok wr ba bc bs (k : Int) (Ints.kept HB.out (Kept.trans HKX.out hK)) hbl
          have l2K := fun (u : World) => l2Kind_ok (hz zs k) u
          have l2S := fun (u : World) => l2Size_ok (hz zs k) u
          have HK : Hid (Kept WX wr) := hK
          have HP : Hid (Passed zs bs (zs.length : Int) k) := hP
          have wrp : IntKind.i64.wrap ((k : Int) + hz zs k / 8) = (k : Int) + hz zs k / 8 := by rw [IntWalk.i64_left, IntWalk.wrap64_in _ (by omega)]
          subst e
          clear hcI hK hP hat hkI
          obtain ⟨x, hx⟩ : ∃ x, hz zs k = x := ⟨_, rfl⟩
          rw [hx] at ck l2K l2S hpu HS wrp g2 g3
          by_cases h0 : x % 8 = 0
          · have hd : (x % 8 != 0) = false := by simpa using h0
            have HN : Hid (Passed zs bs (zs.length : Int) (k + sz zs k)) := HP.out.next hg (by rw [hpu]; simp [h0])
            clear h0 hg hpu hx
            go_wp2_with (first | (go_at_call 121; refine (l2K _).mono ?_; rintro e wx ⟨rfl, rfl⟩) | (go_at_call 29; refine (l2S _).mono ?_; rintro e wx ⟨rfl, rfl⟩))
            go_roundw
            case rel => exact ⟨k + sz zs k, by have := HS.out; congr 1; push_cast; omega, HA.out, HN.out, HK.out⟩
            case measure => have := HS.out; simp [intOf]; omega
          · have hd : (x % 8 != 0) = true := by simpa using h0
            obtain ⟨r, hr⟩ : ∃ r, decide ((k : Int) ∈ bs) = r := ⟨_, rfl⟩
            rw [hr] at hIn hpu
            have hpu2 : passB bs (zs.length : Int) k (kd zs k) = r := by rw [hpu]; simp [h0]
            cases r with
            | true =>
              have HN : Hid (Passed zs bs (zs.length : Int) (k + sz zs k)) := HP.out.next hg hpu2
              clear h0 hg hpu hpu2 hr hx
              go_wp2_with (first | (go_at_call 121; refine (l2K _).mono ?_; rintro e wx ⟨rfl, rfl⟩) | (go_at_call 76; refine hIn.mono ?_; rintro e wx ⟨rfl, rfl⟩) | (go_at_call 29; refine (l2S _).mono ?_; rintro e wx ⟨rfl, rfl⟩))
              go_roundw
              case rel => exact ⟨k + sz zs k, by have := HS.out; congr 1; push_cast; omega, HA.out, HN.out, HK.out⟩
              case measure => have := HS.out; simp [intOf]; omega
            | false =>
              have HE : Hid (sweptR zs [] bs (zs.length : Int) = false) := by rw [Hid, HS2.out, HP.out.fails hg hpu2]; rfl
              clear h0 hg hpu hpu2 hr hx
              go_wp2_with (first | (go_at_call 121; refine (l2K _).mono ?_; rintro e wx ⟨rfl, rfl⟩) | (go_at_call 76; refine hIn.mono ?_; rintro e wx ⟨rfl, rfl⟩))
              go_ret
              exact ⟨by rw [HE.out]; rfl, Kept.trans HKX.out HK.out⟩
        · have HS3 : Hid (sweptR zs [] bs (zs.length : Int) = bs.all (holdR zs bs)) := by rw [Hid, HS2.out, hP.ends (by omega)]; rfl
          have HK1 : Hid (Kept WX wr) := hK
          clear hK hP hat
          go_wp2_with fail
          go_loopw [6] (fun i wr => ∃ k : Nat, i = .int .i64 k ∧ k ≤ bs.length ∧ Hid (∀ j, j < k → holdR zs bs (hz bs j) = true) ∧ Kept WX wr) (fun i _ => bs.length - (intOf i).toNat)
          case atStart => exact ⟨0, rfl, Nat.zero_le _, fun j hj => by omega, HK1.out⟩
          case round =>
            obtain ⟨k, rfl, hk, HY, hK⟩ := hrel
            have m2 := (HX1.out _ hK).cell 2
            have s0 := (HX0.out _ hK).cell 0
            by_cases hlt : k < bs.length
            · have hka := HM.out.2 _ (hz_mem hlt)
              obtain ⟨n, en, hn, hg, esl, b, hbm, hbn⟩ := kind_nat hka
              obtain ⟨-, -, -, hbs, hbk, -⟩ := atB_some (atB_mem HO.out hbm)
              have HH : Hid (holdR zs bs (hz bs k) = (blkR zs n (sz zs n) (kd zs n) && (slotV zs (hz bs k)).all (amongV bs))) := by rw [Hid, holdR, en, Int.toNat_natCast]
              have HSh : Hid (∀ u, Kept w u → Calls Tryz.prog 158 #[.agg #[.slice ao zs.length cap], .int .i64 (n : Int)] u fun e w' => e = .returned (.bool (blkR zs n (sz zs n) (kd zs n))) ∧ Kept u w') := fun u hu => by
                have := l3Shape_ok u ao cap zs b (Ints.kept HI.out hu) hl HO.out (by rw [hbn]; exact hg) hbs hbk
                rw [hbs, hbk, hbn] at this
                exact this
              have HL3 : Hid (∀ u, Kept w u → Calls Tryz.prog 77 #[.agg #[.slice ao zs.length cap], .int .i64 (n : Int)] u fun e w' => ∃ v, e = .returned v ∧ OwnL w' u.heap.size v (slotsL zs (hz bs k)) ∧ Kept u w') := fun u hu => by
                have := l3Slots_ok u ao cap zs n (Ints.kept HI.out hu) hl hg
                rw [← esl] at this
                exact this
              obtain ⟨b1, o1, e1, hc1⟩ := Ints.at (Ints.kept HB.out (Kept.trans HKX.out hK)) hlt
              have c1 := hc1 k hlt
              rw [en] at c1
              have lb1 : b1 < wr.heap.size := World.block_lt_of_cell? _ _ c1
              have HSV : Hid (∀ i, i < (slotsL zs (hz bs k)).length → hz (slotV zs (hz bs k)) i = hz zs (hz (slotsL zs (hz bs k)) i).toNat) := fun i hi => slotV_at hi
              have HSL : Hid ((slotV zs (hz bs k)).length = (slotsL zs (hz bs k)).length) := slotV_len _ _
              have hsl2 : (slotsL zs (hz bs k)).length ≤ zs.length := by
                rw [esl]
                have := slL_len n (kd zs n) (sz zs n)
                have := hg.le
                omega
              have HSP : Hid (∀ i, i < (slotsL zs (hz bs k)).length → ∃ p : Nat, hz (slotsL zs (hz bs k)) i = p ∧ p < zs.length) := fun i hi => by
                rw [esl] at hi ⊢
                exact slL_at hg hi
              have q1 : (k : Int) < (bs.length : Int) := by omega
              have q0 : (0 : Int) ≤ (k : Int) := by omega
              obtain ⟨sl, hsl0⟩ : ∃ sl, slotsL zs (hz bs k) = sl := ⟨_, rfl⟩
              obtain ⟨sv, hsv0⟩ : ∃ sv, slotV zs (hz bs k) = sv := ⟨_, rfl⟩
              rw [hsl0] at HL3 HSV HSL HSP hsl2
              rw [hsv0] at HH HSV HSL
              have kd7 : ∀ u, Kept wr.drew u → Kept wr u := fun u hu => Kept.trans (Below.refl _ wr).drew hu
              have y0 : ∀ u, Kept wr.drew u → u.cell? ⟨w.heap.size, 0, none⟩ = some (.slice ao zs.length cap) := fun u hu => (HX0.out u (Kept.trans hK (kd7 u hu))).cell 0
              have y1 : ∀ u, Kept wr.drew u → u.cell? ⟨w.heap.size + 1, 2, none⟩ = some (.slice (some ⟨b1, o1, none⟩) bs.length bc) := fun u hu => by
                have := (HX1.out u (Kept.trans hK (kd7 u hu))).cell 2
                rw [e1] at this
                exact this
              have y2 : ∀ u, Kept wr.drew u → u.cell? ⟨b1, o1 + k, none⟩ = some (.int .i64 (n : Int)) := fun u hu => ((kd7 u hu).cell (p := ⟨b1, o1 + k, none⟩) lb1).trans c1
              have HKW : Hid (∀ u, Kept wr.drew u → Kept WX u) := fun u hu => Kept.trans hK (kd7 u hu)
              obtain ⟨r, hr⟩ : ∃ r, blkR zs n (sz zs n) (kd zs n) = r := ⟨_, rfl⟩
              rw [hr] at HH
              have C1 : Hid (∀ u, Kept wr.drew u → Calls Tryz.prog 158 #[.agg #[.slice ao zs.length cap], .int .i64 (n : Int)] u fun e w' => e = .returned (.bool r) ∧ Kept u w') := fun u hu => by have := HSh.out u (Kept.trans HKX.out (HKW.out u hu)); rw [hr] at this; exact this
              have HC1 : Hid (wr.cell? ⟨b1, o1 + k, none⟩ = some (.int .i64 (n : Int))) := c1
              subst e1
              clear hc1 hka esl hbm hbn hbs hbk hg hr c1 hsl0 hsv0 HSh hK b
              cases r with
              | false =>
                have HE : Hid (sweptR zs [] bs (zs.length : Int) = false) := by rw [Hid, HS3.out]; exact holds_no hlt (by rw [HH.out]; rfl)
                clear en
                go_wp2_with fail
                refine wp_region_seqL (by kernel_rfl) (by kernel_rfl) ?_
                repeat (first
                  | (refine SeqL.skip (by rfl) ?_; simp only [Act.put, List.setIfInBounds_toArray, List.set_cons_zero, List.set_cons_succ])
                  | (refine SeqL.pure ?_ (by rfl) ?_ ?_; rotate_left; (focus (intro u hu; have y0' := y0 u hu; have y1' := y1 u hu; have y2' := y2 u hu; go_simp; first | done | exact rfl)); simp only [Act.put, List.setIfInBounds_toArray, List.set_cons_zero, List.set_cons_succ])
                  | (refine SeqL.call _ _ _ (by rfl) ?_ C1.out ?_; (focus (intro u; go_simp; done)); simp only [Act.put, List.setIfInBounds_toArray, List.set_cons_zero, List.set_cons_succ]))
                refine SeqL.nil ?_
                intro w5 hu5
                have K5 := Kept.trans HKX.out (HKW.out w5 hu5)
                clear y0 y1 y2 C1 kd7
                go_wp2_with fail
                go_ret
                exact ⟨by rw [HE.out]; rfl, K5⟩
              | true =>
                have HH2 : Hid (holdR zs bs (hz bs k) = sv.all (amongV bs)) := by rw [Hid, HH.out]; rfl
                clear HH en
                go_wp2_with fail
                refine wp_region_seqL (by kernel_rfl) (by kernel_rfl) ?_
                repeat (first
                  | (refine SeqL.skip (by rfl) ?_; simp only [Act.put, List.setIfInBounds_toArray, List.set_cons_zero, List.set_cons_succ])
                  | (refine SeqL.pure ?_ (by rfl) ?_ ?_; rotate_left; (focus (intro u hu; have y0' := y0 u hu; have y1' := y1 u hu; have y2' := y2 u hu; go_simp; first | done | exact rfl)); simp only [Act.put, List.setIfInBounds_toArray, List.set_cons_zero, List.set_cons_succ])
                  | (refine SeqL.call _ _ _ (by rfl) ?_ C1.out ?_; (focus (intro u; go_simp; done)); simp only [Act.put, List.setIfInBounds_toArray, List.set_cons_zero, List.set_cons_succ]))
                refine SeqL.nil ?_
                intro w5 hu5
                have hk5 := kd7 w5 hu5
                have HK5 : Hid (Kept WX w5) := HKW.out w5 hu5
                have kd : Kept w5 w5.drew := (Below.refl _ w5).drew
                have d0 : w5.drew.cell? ⟨w.heap.size, 0, none⟩ = some (.slice ao zs.length cap) := (HX0.out _ (Kept.trans HK5.out kd)).cell 0
                have d1 : w5.drew.cell? ⟨w.heap.size + 1, 2, none⟩ = some (.slice (some ⟨b1, o1, none⟩) bs.length bc) := (HX1.out _ (Kept.trans HK5.out kd)).cell 2
                have lb5 : b1 < w5.heap.size := Nat.lt_of_lt_of_le lb1 hk5.size
                have d2 : w5.drew.cell? ⟨b1, o1 + k, none⟩ = some (.int .i64 (n : Int)) := ((hk5.trans kd).cell (p := ⟨b1, o1 + k, none⟩) lb1).trans HC1.out
                have K2 : Kept w w5.drew := Kept.trans HKX.out (Kept.trans HK5.out kd)
                have HA : Hid (∀ u, Kept w5 u → u.cell? ⟨w.heap.size, 0, none⟩ = some (.slice ao zs.length cap) ∧ u.cell? ⟨w.heap.size + 1, 2, none⟩ = some (.slice (some ⟨b1, o1, none⟩) bs.length bc) ∧ u.cell? ⟨b1, o1 + k, none⟩ = some (.int .i64 (n : Int))) := fun u hu => ⟨(HX0.out _ (Kept.trans HK5.out hu)).cell 0, (HX1.out _ (Kept.trans HK5.out hu)).cell 2, ((hk5.trans hu).cell (p := ⟨b1, o1 + k, none⟩) lb1).trans HC1.out⟩
                clear y0 y1 y2 C1 kd7 hu5
                go_wp2_with fail
                go_region_held3 (fun w' => w'.cell? ⟨w.heap.size, 0, none⟩ = some (.slice ao zs.length cap) ∧ w'.cell? ⟨w.heap.size + 1, 2, none⟩ = some (.slice (some ⟨b1, o1, none⟩) bs.length bc) ∧ w'.cell? ⟨b1, o1 + k, none⟩ = some (.int .i64 (n : Int)))
                  (first | exact HA.out _ (by assumption) | go_keep)
                  ((go_at_call 77; refine (HL3.out _ K2).mono ?_; rintro e w6 ⟨v6, rfl, hO6, hk6⟩; have kx : Kept w5 w6 := kd.trans hk6; obtain ⟨so, sc, rfl, hI6⟩ := hO6.ints))
                have HI6 : Hid (Ints w6 so sl) := hI6
                have HK6 : Hid (Kept WX w6) := Kept.trans HK5.out kx
                clear hI6 hO6 kx hk6 d0 d1 d2 K2 HA HL3 kd
                go_wp2_with fail
                go_loopw [8] (fun i wr => ∃ j : Nat, i = .int .i64 j ∧ j ≤ sl.length ∧ Hid (∀ i, i < j → amongV bs (hz sv i) = true) ∧ Kept w6 wr) (fun i _ => sl.length - (intOf i).toNat)
                case atStart => exact ⟨0, rfl, Nat.zero_le _, fun i hi => by omega, Below.refl _ _⟩
                case round =>
                  obtain ⟨j, rfl, hj, HZ, hK7⟩ := hrel
                  have HK7 : Hid (Kept WX wr) := Kept.trans HK6.out hK7
                  by_cases hlj : j < sl.length
                  · obtain ⟨p, hp, hpl⟩ := HSP.out j hlj
                    have hjv : j < sv.length := by rw [HSL.out]; exact hlj
                    have evj : hz sv j = hz zs p := by rw [HSV.out j hlj, hp, Int.toNat_natCast]
                    obtain ⟨b5, o5, e5, hc5⟩ := Ints.at (Ints.kept HI6.out hK7) hlj
                    have c5 := hc5 j hlj
                    rw [hp] at c5
                    obtain ⟨b6, o6, e6, hc6⟩ := Ints.at (Ints.kept HI.out (Kept.trans HKX.out HK7.out)) hpl
                    have c6 := hc6 p hpl
                    have l5 : b5 < wr.heap.size := World.block_lt_of_cell? _ _ c5
                    have l6 : b6 < wr.heap.size := World.block_lt_of_cell? _ _ c6
                    have kd7 : ∀ u, Kept wr.drew u → Kept wr u := fun u hu => Kept.trans (Below.refl _ wr).drew hu
                    have y0 : ∀ u, Kept wr.drew u → u.cell? ⟨w.heap.size, 0, none⟩ = some (.slice (some ⟨b6, o6, none⟩) zs.length cap) := fun u hu => by
                      have := (HX0.out u (Kept.trans HK7.out (kd7 u hu))).cell 0
                      rw [e6] at this
                      exact this
                    have y1 : ∀ u, Kept wr.drew u → u.cell? ⟨b5, o5 + j, none⟩ = some (.int .i64 (p : Int)) := fun u hu => ((kd7 u hu).cell (p := ⟨b5, o5 + j, none⟩) l5).trans c5
                    have y2 : ∀ u, Kept wr.drew u → u.cell? ⟨b6, o6 + p, none⟩ = some (.int .i64 (hz zs p)) := fun u hu => ((kd7 u hu).cell (p := ⟨b6, o6 + p, none⟩) l6).trans c6
                    have g1 : (j : Int) < (sl.length : Int) := by omega
                    have g2 : (0 : Int) ≤ (j : Int) := by omega
                    have g3 : (p : Int) < (zs.length : Int) := by omega
                    have g4 : (0 : Int) ≤ (p : Int) := by omega
                    have g5 : ((p : Int)).toNat = p := by omega
                    obtain ⟨bv, hbv⟩ : ∃ bv, blkV (hz zs p) = bv := ⟨_, rfl⟩
                    have C1 : Hid (∀ u, Kept wr.drew u → Calls Tryz.prog 75 #[.int .i64 (hz zs p)] u fun e w' => e = .returned (.int .i64 bv) ∧ Kept u w') := fun u _ => calls_kept (by have := l7Block_ok (hz zs p) u; rw [hbv] at this; exact this)
                    have HAM : Hid (amongV bs (hz sv j) = (decide (bv < 0) || decide (bv ∈ bs))) := by rw [Hid, evj, amongV, hbv]
                    have HKW7 : Hid (∀ u, Kept wr.drew u → Kept w6 u) := fun u hu => Kept.trans hK7 (kd7 u hu)
                    subst e5
                    subst e6
                    clear hc5 hc6 c5 c6 hbv evj hp hK7
                    go_wp2_with fail
                    refine wp_region_seqL (by kernel_rfl) (by kernel_rfl) ?_
                    repeat (first
                      | (refine SeqL.skip (by rfl) ?_; simp only [Act.put, List.setIfInBounds_toArray, List.set_cons_zero, List.set_cons_succ])
                      | (refine SeqL.pure ?_ (by rfl) ?_ ?_; rotate_left; (focus (intro u hu; have y0' := y0 u hu; have y1' := y1 u hu; have y2' := y2 u hu; go_simp; first | done | exact rfl)); simp only [Act.put, List.setIfInBounds_toArray, List.set_cons_zero, List.set_cons_succ])
                      | (refine SeqL.call _ _ _ (by rfl) ?_ C1.out ?_; (focus (intro u; go_simp; done)); simp only [Act.put, List.setIfInBounds_toArray, List.set_cons_zero, List.set_cons_succ]))
                    refine SeqL.nil ?_
                    intro w8 hu8
                    have K8 := HKW7.out w8 hu8
                    have HK8 : Hid (Kept WX w8) := Kept.trans HK6.out K8
                    have m8 := (HX1.out _ HK8.out).cell 2
                    have hIn := l7In_ok w8 (some ⟨b1, o1, none⟩) bc bs bv (Ints.kept HB.out (Kept.trans HKX.out HK8.out)) hbl
                    have HK8' : Hid (Kept w6 w8) := K8
                    clear y0 y1 y2 C1 kd7 K8 hu8
                    by_cases h0 : (0 : Int) ≤ bv
                    · have hd0 : decide ((0 : Int) ≤ bv) = true := by simpa using h0
                      obtain ⟨r2, hr2⟩ : ∃ r2, decide (bv ∈ bs) = r2 := ⟨_, rfl⟩
                      rw [hr2] at hIn HAM
                      have HAM2 : Hid (amongV bs (hz sv j) = r2) := by
                        rw [Hid, HAM.out]
                        have : decide (bv < 0) = false := by simp; omega
                        rw [this, Bool.false_or]
                      clear h0 hr2
                      cases r2 with
                      | true =>
                        go_wp2_with (first | (go_at_call 76; refine hIn.mono ?_; rintro e wx ⟨rfl, rfl⟩))
                        go_roundw
                        case rel =>
                          refine ⟨j + 1, by go_num, by omega, fun i hi => ?_, HK8'.out⟩
                          rcases Nat.lt_or_ge i j with h | h
                          · exact HZ.out i h
                          · obtain rfl : i = j := by omega
                            exact HAM2.out
                        case measure => simp [intOf]; omega
                      | false =>
                        have HE : Hid (sweptR zs [] bs (zs.length : Int) = false) := by rw [Hid, HS3.out]; exact holds_no hlt (by rw [HH2.out]; exact among_no hjv HAM2.out)
                        go_wp2_with (first | (go_at_call 76; refine hIn.mono ?_; rintro e wx ⟨rfl, rfl⟩))
                        go_ret
                        exact ⟨by rw [HE.out]; rfl, Kept.trans HKX.out HK8.out⟩
                    · have hd0 : decide ((0 : Int) ≤ bv) = false := by simpa using h0
                      have HAM2 : Hid (amongV bs (hz sv j) = true) := by
                        rw [Hid, HAM.out]
                        have : decide (bv < 0) = true := by simp; omega
                        rw [this, Bool.true_or]
                      clear h0 hIn
                      go_wp2_with fail
                      go_roundw
                      case rel =>
                        refine ⟨j + 1, by go_num, by omega, fun i hi => ?_, HK8'.out⟩
                        rcases Nat.lt_or_ge i j with h | h
                        · exact HZ.out i h
                        · obtain rfl : i = j := by omega
                          exact HAM2.out
                      case measure => simp [intOf]; omega
                  · obtain rfl : j = sl.length := by omega
                    have HHk : Hid (holdR zs bs (hz bs k) = true) := by rw [Hid, HH2.out]; exact among_yes (fun i hi => HZ.out i (by rw [HSL.out] at hi; exact hi))
                    clear hK7
                    go_wp2_with fail
                    go_roundw
                    case rel =>
                      refine ⟨k + 1, by go_num, by omega, fun j hj => ?_, HK7.out⟩
                      rcases Nat.lt_or_ge j k with h | h
                      · exact HY.out j h
                      · obtain rfl : j = k := by omega
                        exact HHk.out
                    case measure => simp [intOf]; omega
            · obtain rfl : k = bs.length := by omega
              have HE : Hid (sweptR zs [] bs (zs.length : Int) = true) := by rw [Hid, HS3.out]; exact holds_yes HY.out
              have HK2 : Hid (Kept WX wr) := hK
              clear hK
              go_wp2_with fail
              go_ret
              exact ⟨by rw [HE.out]; rfl, Kept.trans HKX.out HK2.out⟩
    · have n1 : (at' != (zs.length : Int)) = true := by simpa using ha
      cases hr : isAt zs at' with
      | false =>
        have HE : Hid (sweptR zs [] bs at' = false) := by rw [Hid, sweptR]; simp [ha, hr]
        have hIs := fun (u : World) (hu : Kept w u) => by have := HIs.out u hu; rw [hr] at this; exact this
        clear ha hr HIs
        go_enter Tryz.func118, Tryz.ntmps118
        go_upto_region 1 with (fail)
        obtain ⟨WX, hWX⟩ : ∃ WX, (w.alloc (.cells #[.slice ao zs.length cap] 39)).alloc (.cells #[.int .i64 ph, .slice ga 0 gc, .slice ba bs.length bc, .int .i64 at'] 40) = WX := ⟨_, rfl⟩
        rw [hWX] at b0 b1 k0
        simp only [hWX]
        have HX0 : Hid (∀ u, Kept WX u → Cells u w.heap.size 39 #[.slice ao zs.length cap]) := fun u hu => b0.kept hu
        have HX1 : Hid (∀ u, Kept WX u → Cells u (w.heap.size + 1) 40 #[.int .i64 ph, .slice ga 0 gc, .slice ba bs.length bc, .int .i64 at']) := fun u hu => b1.kept hu
        have HKX : Hid (Kept w WX) := k0
        have m1 := (HX1.out WX (Below.refl _ _)).cell 1
        have m3 := (HX1.out WX (Below.refl _ _)).cell 3
        have s0 := (HX0.out WX (Below.refl _ _)).cell 0
        clear hWX b0 b1 k0
        go_wp2_with (go_at_call 156; refine (hIs _ HKX.out).mono ?_; rintro e w1 ⟨rfl, hk1⟩)
        go_ret
        exact ⟨by rw [HE.out]; rfl, Kept.trans HKX.out hk1⟩
      | true =>
        have HS2 : Hid (sweptR zs [] bs at' = (passR zs bs at' && bs.all (holdR zs bs))) := by rw [Hid, sweptR]; simp [hr]
        have hIs := fun (u : World) (hu : Kept w u) => by have := HIs.out u hu; rw [hr] at this; exact this
        obtain ⟨ha0, ha1⟩ := isAt_le hr
        clear ha hr HIs
        go_enter Tryz.func118, Tryz.ntmps118
        go_upto_region 1 with (fail)
        obtain ⟨WX, hWX⟩ : ∃ WX, (w.alloc (.cells #[.slice ao zs.length cap] 39)).alloc (.cells #[.int .i64 ph, .slice ga 0 gc, .slice ba bs.length bc, .int .i64 at'] 40) = WX := ⟨_, rfl⟩
        rw [hWX] at b0 b1 k0
        simp only [hWX]
        have HX0 : Hid (∀ u, Kept WX u → Cells u w.heap.size 39 #[.slice ao zs.length cap]) := fun u hu => b0.kept hu
        have HX1 : Hid (∀ u, Kept WX u → Cells u (w.heap.size + 1) 40 #[.int .i64 ph, .slice ga 0 gc, .slice ba bs.length bc, .int .i64 at']) := fun u hu => b1.kept hu
        have HKX : Hid (Kept w WX) := k0
        have m1 := (HX1.out WX (Below.refl _ _)).cell 1
        have m3 := (HX1.out WX (Below.refl _ _)).cell 3
        have s0 := (HX0.out WX (Below.refl _ _)).cell 0
        clear hWX b0 b1 k0
        go_upto_region 3 with (go_at_call 156; refine (hIs _ HKX.out).mono ?_; rintro e w1 ⟨rfl, HK0⟩)
        clear m1 m3 s0
        go_wp2_with fail
        go_loopw [5] (fun i wr => ∃ k : Nat, i = .int .i64 k ∧ At zs k ∧ Passed zs bs at' k ∧ Kept WX wr) (fun i _ => zs.length - (intOf i).toNat)
        case atStart => exact ⟨0, rfl, At.zero zs, Passed.zero _ _ _, HK0⟩
        case round =>
          obtain ⟨k, rfl, hat, hP, hK⟩ := hrel
          have m3 := (HX1.out _ hK).cell 3
          have m2 := (HX1.out _ hK).cell 2
          have s0 := (HX0.out _ hK).cell 0
          by_cases hka : (k : Int) < at'
          · have hlt : k < zs.length := by omega
            have hg := hat.good HO.out hlt
            have HA : Hid (At zs (k + sz zs k)) := hat.next hg
            have HS : Hid ((sz zs k : Int) = hz zs k / 8) := hg.szI
            have hle := hg.le
            have hs2 := hg.sz2
            have g2 := hg.2.2.1
            have g3 := hg.2.2.2
            have hkI := kdI zs k
            obtain ⟨bb, off, e, hcI⟩ := Ints.at (Ints.kept HI.out (Kept.trans HKX.out hK)) hlt
            have ck := hcI k hlt
            have q1 : (k : Int) < (zs.length : Int) := by omega
            have q0 : (0 : Int) ≤ (k : Int) := by omega
            have hpu : passB bs at' k (kd zs k) = (decide (hz zs k % 8 = 0) || decide ((k : Int) ∈ bs)) := by
              unfold passB
              have e1 : decide (at' ≤ (k : Int)) = false := by simp; omega
              have e2 : decide (kd zs k = 0) = decide (hz zs k % 8 = 0) := by rw [decide_eq_decide]; omega
              rw [e1, e2, Bool.false_or]
            have hIn := l7In_ok wr ba bc bs (k : Int) (Ints.kept HB.out (Kept.trans HKX.out hK)) hbl
            have l2K := fun (u : World) => l2Kind_ok (hz zs k) u
            have l2S := fun (u : World) => l2Size_ok (hz zs k) u
            have HK : Hid (Kept WX wr) := hK
            have HP : Hid (Passed zs bs at' k) := hP
            have wrp : IntKind.i64.wrap ((k : Int) + hz zs k / 8) = (k : Int) + hz zs k / 8 := by rw [IntWalk.i64_left, IntWalk.wrap64_in _ (by omega)]
            subst e
            clear hcI hK hP hat hkI
            obtain ⟨x, hx⟩ : ∃ x, hz zs k = x := ⟨_, rfl⟩
            rw [hx] at ck l2K l2S hpu HS wrp g2 g3
            by_cases h0 : x % 8 = 0
            · have hd : (x % 8 != 0) = false := by simpa using h0
              have HN : Hid (Passed zs bs at' (k + sz zs k)) := HP.out.next hg (by rw [hpu]; simp [h0])
              clear h0 hg hpu hx
              go_wp2_with (first | (go_at_call 121; refine (l2K _).mono ?_; rintro e wx ⟨rfl, rfl⟩) | (go_at_call 29; refine (l2S _).mono ?_; rintro e wx ⟨rfl, rfl⟩))
              go_roundw
              case rel => exact ⟨k + sz zs k, by have := HS.out; congr 1; push_cast; omega, HA.out, HN.out, HK.out⟩
              case measure => have := HS.out; simp [intOf]; omega
            · have hd : (x % 8 != 0) = true := by simpa using h0
              obtain ⟨r, hr⟩ : ∃ r, decide ((k : Int) ∈ bs) = r := ⟨_, rfl⟩
              rw [hr] at hIn hpu
              have hpu2 : passB bs at' k (kd zs k) = r := by rw [hpu]; simp [h0]
              cases r with
              | true =>
                have HN : Hid (Passed zs bs at' (k + sz zs k)) := HP.out.next hg hpu2
                clear h0 hg hpu hpu2 hr hx
                go_wp2_with (first | (go_at_call 121; refine (l2K _).mono ?_; rintro e wx ⟨rfl, rfl⟩) | (go_at_call 76; refine hIn.mono ?_; rintro e wx ⟨rfl, rfl⟩) | (go_at_call 29; refine (l2S _).mono ?_; rintro e wx ⟨rfl, rfl⟩))
                go_roundw
                case rel => exact ⟨k + sz zs k, by have := HS.out; congr 1; push_cast; omega, HA.out, HN.out, HK.out⟩
                case measure => have := HS.out; simp [intOf]; omega
              | false =>
                have HE : Hid (sweptR zs [] bs at' = false) := by rw [Hid, HS2.out, HP.out.fails hg hpu2]; rfl
                clear h0 hg hpu hpu2 hr hx
                go_wp2_with (first | (go_at_call 121; refine (l2K _).mono ?_; rintro e wx ⟨rfl, rfl⟩) | (go_at_call 76; refine hIn.mono ?_; rintro e wx ⟨rfl, rfl⟩))
                go_ret
                exact ⟨by rw [HE.out]; rfl, Kept.trans HKX.out HK.out⟩
          · have HS3 : Hid (sweptR zs [] bs at' = bs.all (holdR zs bs)) := by rw [Hid, HS2.out, hP.ends (by omega)]; rfl
            have HK1 : Hid (Kept WX wr) := hK
            clear hK hP hat
            go_wp2_with fail
            go_loopw [6] (fun i wr => ∃ k : Nat, i = .int .i64 k ∧ k ≤ bs.length ∧ Hid (∀ j, j < k → holdR zs bs (hz bs j) = true) ∧ Kept WX wr) (fun i _ => bs.length - (intOf i).toNat)
            case atStart => exact ⟨0, rfl, Nat.zero_le _, fun j hj => by omega, HK1.out⟩
            case round =>
              obtain ⟨k, rfl, hk, HY, hK⟩ := hrel
              have m2 := (HX1.out _ hK).cell 2
              have s0 := (HX0.out _ hK).cell 0
              by_cases hlt : k < bs.length
              · have hka := HM.out.2 _ (hz_mem hlt)
                obtain ⟨n, en, hn, hg, esl, b, hbm, hbn⟩ := kind_nat hka
                obtain ⟨-, -, -, hbs, hbk, -⟩ := atB_some (atB_mem HO.out hbm)
                have HH : Hid (holdR zs bs (hz bs k) = (blkR zs n (sz zs n) (kd zs n) && (slotV zs (hz bs k)).all (amongV bs))) := by rw [Hid, holdR, en, Int.toNat_natCast]
                have HSh : Hid (∀ u, Kept w u → Calls Tryz.prog 158 #[.agg #[.slice ao zs.length cap], .int .i64 (n : Int)] u fun e w' => e = .returned (.bool (blkR zs n (sz zs n) (kd zs n))) ∧ Kept u w') := fun u hu => by
                  have := l3Shape_ok u ao cap zs b (Ints.kept HI.out hu) hl HO.out (by rw [hbn]; exact hg) hbs hbk
                  rw [hbs, hbk, hbn] at this
                  exact this
                have HL3 : Hid (∀ u, Kept w u → Calls Tryz.prog 77 #[.agg #[.slice ao zs.length cap], .int .i64 (n : Int)] u fun e w' => ∃ v, e = .returned v ∧ OwnL w' u.heap.size v (slotsL zs (hz bs k)) ∧ Kept u w') := fun u hu => by
                  have := l3Slots_ok u ao cap zs n (Ints.kept HI.out hu) hl hg
                  rw [← esl] at this
                  exact this
                obtain ⟨b1, o1, e1, hc1⟩ := Ints.at (Ints.kept HB.out (Kept.trans HKX.out hK)) hlt
                have c1 := hc1 k hlt
                rw [en] at c1
                have lb1 : b1 < wr.heap.size := World.block_lt_of_cell? _ _ c1
                have HSV : Hid (∀ i, i < (slotsL zs (hz bs k)).length → hz (slotV zs (hz bs k)) i = hz zs (hz (slotsL zs (hz bs k)) i).toNat) := fun i hi => slotV_at hi
                have HSL : Hid ((slotV zs (hz bs k)).length = (slotsL zs (hz bs k)).length) := slotV_len _ _
                have hsl2 : (slotsL zs (hz bs k)).length ≤ zs.length := by
                  rw [esl]
                  have := slL_len n (kd zs n) (sz zs n)
                  have := hg.le
                  omega
                have HSP : Hid (∀ i, i < (slotsL zs (hz bs k)).length → ∃ p : Nat, hz (slotsL zs (hz bs k)) i = p ∧ p < zs.length) := fun i hi => by
                  rw [esl] at hi ⊢
                  exact slL_at hg hi
                have q1 : (k : Int) < (bs.length : Int) := by omega
                have q0 : (0 : Int) ≤ (k : Int) := by omega
                obtain ⟨sl, hsl0⟩ : ∃ sl, slotsL zs (hz bs k) = sl := ⟨_, rfl⟩
                obtain ⟨sv, hsv0⟩ : ∃ sv, slotV zs (hz bs k) = sv := ⟨_, rfl⟩
                rw [hsl0] at HL3 HSV HSL HSP hsl2
                rw [hsv0] at HH HSV HSL
                have kd7 : ∀ u, Kept wr.drew u → Kept wr u := fun u hu => Kept.trans (Below.refl _ wr).drew hu
                have y0 : ∀ u, Kept wr.drew u → u.cell? ⟨w.heap.size, 0, none⟩ = some (.slice ao zs.length cap) := fun u hu => (HX0.out u (Kept.trans hK (kd7 u hu))).cell 0
                have y1 : ∀ u, Kept wr.drew u → u.cell? ⟨w.heap.size + 1, 2, none⟩ = some (.slice (some ⟨b1, o1, none⟩) bs.length bc) := fun u hu => by
                  have := (HX1.out u (Kept.trans hK (kd7 u hu))).cell 2
                  rw [e1] at this
                  exact this
                have y2 : ∀ u, Kept wr.drew u → u.cell? ⟨b1, o1 + k, none⟩ = some (.int .i64 (n : Int)) := fun u hu => ((kd7 u hu).cell (p := ⟨b1, o1 + k, none⟩) lb1).trans c1
                have HKW : Hid (∀ u, Kept wr.drew u → Kept WX u) := fun u hu => Kept.trans hK (kd7 u hu)
                obtain ⟨r, hr⟩ : ∃ r, blkR zs n (sz zs n) (kd zs n) = r := ⟨_, rfl⟩
                rw [hr] at HH
                have C1 : Hid (∀ u, Kept wr.drew u → Calls Tryz.prog 158 #[.agg #[.slice ao zs.length cap], .int .i64 (n : Int)] u fun e w' => e = .returned (.bool r) ∧ Kept u w') := fun u hu => by have := HSh.out u (Kept.trans HKX.out (HKW.out u hu)); rw [hr] at this; exact this
                have HC1 : Hid (wr.cell? ⟨b1, o1 + k, none⟩ = some (.int .i64 (n : Int))) := c1
                subst e1
                clear hc1 hka esl hbm hbn hbs hbk hg hr c1 hsl0 hsv0 HSh hK b
                cases r with
                | false =>
                  have HE : Hid (sweptR zs [] bs at' = false) := by rw [Hid, HS3.out]; exact holds_no hlt (by rw [HH.out]; rfl)
                  clear en
                  go_wp2_with fail
                  refine wp_region_seqL (by kernel_rfl) (by kernel_rfl) ?_
                  repeat (first
                    | (refine SeqL.skip (by rfl) ?_; simp only [Act.put, List.setIfInBounds_toArray, List.set_cons_zero, List.set_cons_succ])
                    | (refine SeqL.pure ?_ (by rfl) ?_ ?_; rotate_left; (focus (intro u hu; have y0' := y0 u hu; have y1' := y1 u hu; have y2' := y2 u hu; go_simp; first | done | exact rfl)); simp only [Act.put, List.setIfInBounds_toArray, List.set_cons_zero, List.set_cons_succ])
                    | (refine SeqL.call _ _ _ (by rfl) ?_ C1.out ?_; (focus (intro u; go_simp; done)); simp only [Act.put, List.setIfInBounds_toArray, List.set_cons_zero, List.set_cons_succ]))
                  refine SeqL.nil ?_
                  intro w5 hu5
                  have K5 := Kept.trans HKX.out (HKW.out w5 hu5)
                  clear y0 y1 y2 C1 kd7
                  go_wp2_with fail
                  go_ret
                  exact ⟨by rw [HE.out]; rfl, K5⟩
                | true =>
                  have HH2 : Hid (holdR zs bs (hz bs k) = sv.all (amongV bs)) := by rw [Hid, HH.out]; rfl
                  clear HH en
                  go_wp2_with fail
                  refine wp_region_seqL (by kernel_rfl) (by kernel_rfl) ?_
                  repeat (first
                    | (refine SeqL.skip (by rfl) ?_; simp only [Act.put, List.setIfInBounds_toArray, List.set_cons_zero, List.set_cons_succ])
                    | (refine SeqL.pure ?_ (by rfl) ?_ ?_; rotate_left; (focus (intro u hu; have y0' := y0 u hu; have y1' := y1 u hu; have y2' := y2 u hu; go_simp; first | done | exact rfl)); simp only [Act.put, List.setIfInBounds_toArray, List.set_cons_zero, List.set_cons_succ])
                    | (refine SeqL.call _ _ _ (by rfl) ?_ C1.out ?_; (focus (intro u; go_simp; done)); simp only [Act.put, List.setIfInBounds_toArray, List.set_cons_zero, List.set_cons_succ]))
                  refine SeqL.nil ?_
                  intro w5 hu5
                  have hk5 := kd7 w5 hu5
                  have HK5 : Hid (Kept WX w5) := HKW.out w5 hu5
                  have kd : Kept w5 w5.drew := (Below.refl _ w5).drew
                  have d0 : w5.drew.cell? ⟨w.heap.size, 0, none⟩ = some (.slice ao zs.length cap) := (HX0.out _ (Kept.trans HK5.out kd)).cell 0
                  have d1 : w5.drew.cell? ⟨w.heap.size + 1, 2, none⟩ = some (.slice (some ⟨b1, o1, none⟩) bs.length bc) := (HX1.out _ (Kept.trans HK5.out kd)).cell 2
                  have lb5 : b1 < w5.heap.size := Nat.lt_of_lt_of_le lb1 hk5.size
                  have d2 : w5.drew.cell? ⟨b1, o1 + k, none⟩ = some (.int .i64 (n : Int)) := ((hk5.trans kd).cell (p := ⟨b1, o1 + k, none⟩) lb1).trans HC1.out
                  have K2 : Kept w w5.drew := Kept.trans HKX.out (Kept.trans HK5.out kd)
                  have HA : Hid (∀ u, Kept w5 u → u.cell? ⟨w.heap.size, 0, none⟩ = some (.slice ao zs.length cap) ∧ u.cell? ⟨w.heap.size + 1, 2, none⟩ = some (.slice (some ⟨b1, o1, none⟩) bs.length bc) ∧ u.cell? ⟨b1, o1 + k, none⟩ = some (.int .i64 (n : Int))) := fun u hu => ⟨(HX0.out _ (Kept.trans HK5.out hu)).cell 0, (HX1.out _ (Kept.trans HK5.out hu)).cell 2, ((hk5.trans hu).cell (p := ⟨b1, o1 + k, none⟩) lb1).trans HC1.out⟩
                  clear y0 y1 y2 C1 kd7 hu5
                  go_wp2_with fail
                  go_region_held3 (fun w' => w'.cell? ⟨w.heap.size, 0, none⟩ = some (.slice ao zs.length cap) ∧ w'.cell? ⟨w.heap.size + 1, 2, none⟩ = some (.slice (some ⟨b1, o1, none⟩) bs.length bc) ∧ w'.cell? ⟨b1, o1 + k, none⟩ = some (.int .i64 (n : Int)))
                    (first | exact HA.out _ (by assumption) | go_keep)
                    ((go_at_call 77; refine (HL3.out _ K2).mono ?_; rintro e w6 ⟨v6, rfl, hO6, hk6⟩; have kx : Kept w5 w6 := kd.trans hk6; obtain ⟨so, sc, rfl, hI6⟩ := hO6.ints))
                  have HI6 : Hid (Ints w6 so sl) := hI6
                  have HK6 : Hid (Kept WX w6) := Kept.trans HK5.out kx
                  clear hI6 hO6 kx hk6 d0 d1 d2 K2 HA HL3 kd
                  go_wp2_with fail
                  go_loopw [8] (fun i wr => ∃ j : Nat, i = .int .i64 j ∧ j ≤ sl.length ∧ Hid (∀ i, i < j → amongV bs (hz sv i) = true) ∧ Kept w6 wr) (fun i _ => sl.length - (intOf i).toNat)
                  case atStart => exact ⟨0, rfl, Nat.zero_le _, fun i hi => by omega, Below.refl _ _⟩
                  case round =>
                    obtain ⟨j, rfl, hj, HZ, hK7⟩ := hrel
                    have HK7 : Hid (Kept WX wr) := Kept.trans HK6.out hK7
                    by_cases hlj : j < sl.length
                    · obtain ⟨p, hp, hpl⟩ := HSP.out j hlj
                      have hjv : j < sv.length := by rw [HSL.out]; exact hlj
                      have evj : hz sv j = hz zs p := by rw [HSV.out j hlj, hp, Int.toNat_natCast]
                      obtain ⟨b5, o5, e5, hc5⟩ := Ints.at (Ints.kept HI6.out hK7) hlj
                      have c5 := hc5 j hlj
                      rw [hp] at c5
                      obtain ⟨b6, o6, e6, hc6⟩ := Ints.at (Ints.kept HI.out (Kept.trans HKX.out HK7.out)) hpl
                      have c6 := hc6 p hpl
                      have l5 : b5 < wr.heap.size := World.block_lt_of_cell? _ _ c5
                      have l6 : b6 < wr.heap.size := World.block_lt_of_cell? _ _ c6
                      have kd7 : ∀ u, Kept wr.drew u → Kept wr u := fun u hu => Kept.trans (Below.refl _ wr).drew hu
                      have y0 : ∀ u, Kept wr.drew u → u.cell? ⟨w.heap.size, 0, none⟩ = some (.slice (some ⟨b6, o6, none⟩) zs.length cap) := fun u hu => by
                        have := (HX0.out u (Kept.trans HK7.out (kd7 u hu))).cell 0
                        rw [e6] at this
                        exact this
                      have y1 : ∀ u, Kept wr.drew u → u.cell? ⟨b5, o5 + j, none⟩ = some (.int .i64 (p : Int)) := fun u hu => ((kd7 u hu).cell (p := ⟨b5, o5 + j, none⟩) l5).trans c5
                      have y2 : ∀ u, Kept wr.drew u → u.cell? ⟨b6, o6 + p, none⟩ = some (.int .i64 (hz zs p)) := fun u hu => ((kd7 u hu).cell (p := ⟨b6, o6 + p, none⟩) l6).trans c6
                      have g1 : (j : Int) < (sl.length : Int) := by omega
                      have g2 : (0 : Int) ≤ (j : Int) := by omega
                      have g3 : (p : Int) < (zs.length : Int) := by omega
                      have g4 : (0 : Int) ≤ (p : Int) := by omega
                      have g5 : ((p : Int)).toNat = p := by omega
                      obtain ⟨bv, hbv⟩ : ∃ bv, blkV (hz zs p) = bv := ⟨_, rfl⟩
                      have C1 : Hid (∀ u, Kept wr.drew u → Calls Tryz.prog 75 #[.int .i64 (hz zs p)] u fun e w' => e = .returned (.int .i64 bv) ∧ Kept u w') := fun u _ => calls_kept (by have := l7Block_ok (hz zs p) u; rw [hbv] at this; exact this)
                      have HAM : Hid (amongV bs (hz sv j) = (decide (bv < 0) || decide (bv ∈ bs))) := by rw [Hid, evj, amongV, hbv]
                      have HKW7 : Hid (∀ u, Kept wr.drew u → Kept w6 u) := fun u hu => Kept.trans hK7 (kd7 u hu)
                      subst e5
                      subst e6
                      clear hc5 hc6 c5 c6 hbv evj hp hK7
                      go_wp2_with fail
                      refine wp_region_seqL (by kernel_rfl) (by kernel_rfl) ?_
                      repeat (first
                        | (refine SeqL.skip (by rfl) ?_; simp only [Act.put, List.setIfInBounds_toArray, List.set_cons_zero, List.set_cons_succ])
                        | (refine SeqL.pure ?_ (by rfl) ?_ ?_; rotate_left; (focus (intro u hu; have y0' := y0 u hu; have y1' := y1 u hu; have y2' := y2 u hu; go_simp; first | done | exact rfl)); simp only [Act.put, List.setIfInBounds_toArray, List.set_cons_zero, List.set_cons_succ])
                        | (refine SeqL.call _ _ _ (by rfl) ?_ C1.out ?_; (focus (intro u; go_simp; done)); simp only [Act.put, List.setIfInBounds_toArray, List.set_cons_zero, List.set_cons_succ]))
                      refine SeqL.nil ?_
                      intro w8 hu8
                      have K8 := HKW7.out w8 hu8
                      have HK8 : Hid (Kept WX w8) := Kept.trans HK6.out K8
                      have m8 := (HX1.out _ HK8.out).cell 2
                      have hIn := l7In_ok w8 (some ⟨b1, o1, none⟩) bc bs bv (Ints.kept HB.out (Kept.trans HKX.out HK8.out)) hbl
                      have HK8' : Hid (Kept w6 w8) := K8
                      clear y0 y1 y2 C1 kd7 K8 hu8
                      by_cases h0 : (0 : Int) ≤ bv
                      · have hd0 : decide ((0 : Int) ≤ bv) = true := by simpa using h0
                        obtain ⟨r2, hr2⟩ : ∃ r2, decide (bv ∈ bs) = r2 := ⟨_, rfl⟩
                        rw [hr2] at hIn HAM
                        have HAM2 : Hid (amongV bs (hz sv j) = r2) := by
                          rw [Hid, HAM.out]
                          have : decide (bv < 0) = false := by simp; omega
                          rw [this, Bool.false_or]
                        clear h0 hr2
                        cases r2 with
                        | true =>
                          go_wp2_with (first | (go_at_call 76; refine hIn.mono ?_; rintro e wx ⟨rfl, rfl⟩))
                          go_roundw
                          case rel =>
                            refine ⟨j + 1, by go_num, by omega, fun i hi => ?_, HK8'.out⟩
                            rcases Nat.lt_or_ge i j with h | h
                            · exact HZ.out i h
                            · obtain rfl : i = j := by omega
                              exact HAM2.out
                          case measure => simp [intOf]; omega
                        | false =>
                          have HE : Hid (sweptR zs [] bs at' = false) := by rw [Hid, HS3.out]; exact holds_no hlt (by rw [HH2.out]; exact among_no hjv HAM2.out)
                          go_wp2_with (first | (go_at_call 76; refine hIn.mono ?_; rintro e wx ⟨rfl, rfl⟩))
                          go_ret
                          exact ⟨by rw [HE.out]; rfl, Kept.trans HKX.out HK8.out⟩
                      · have hd0 : decide ((0 : Int) ≤ bv) = false := by simpa using h0
                        have HAM2 : Hid (amongV bs (hz sv j) = true) := by
                          rw [Hid, HAM.out]
                          have : decide (bv < 0) = true := by simp; omega
                          rw [this, Bool.true_or]
                        clear h0 hIn
                        go_wp2_with fail
                        go_roundw
                        case rel =>
                          refine ⟨j + 1, by go_num, by omega, fun i hi => ?_, HK8'.out⟩
                          rcases Nat.lt_or_ge i j with h | h
                          · exact HZ.out i h
                          · obtain rfl : i = j := by omega
                            exact HAM2.out
                        case measure => simp [intOf]; omega
                    · obtain rfl : j = sl.length := by omega
                      have HHk : Hid (holdR zs bs (hz bs k) = true) := by rw [Hid, HH2.out]; exact among_yes (fun i hi => HZ.out i (by rw [HSL.out] at hi; exact hi))
                      clear hK7
                      go_wp2_with fail
                      go_roundw
                      case rel =>
                        refine ⟨k + 1, by go_num, by omega, fun j hj => ?_, HK7.out⟩
                        rcases Nat.lt_or_ge j k with h | h
                        · exact HY.out j h
                        · obtain rfl : j = k := by omega
                          exact HHk.out
                      case measure => simp [intOf]; omega
              · obtain rfl : k = bs.length := by omega
                have HE : Hid (sweptR zs [] bs at' = true) := by rw [Hid, HS3.out]; exact holds_yes HY.out
                have HK2 : Hid (Kept WX wr) := hK
                clear hK
                go_wp2_with fail
                go_ret
                exact ⟨by rw [HE.out]; rfl, Kept.trans HKX.out HK2.out⟩
  · have g1 : decide (0 < gs.length) = true := by
      have : gs.length ≠ 0 := fun h => hg (List.eq_nil_of_length_eq_zero h)
      simp
      omega
    have HE : Hid (sweptR zs gs bs at' = false) := by rw [Hid, sweptR]; simp [hg]
    clear hg HIs
    go_enter Tryz.func118, Tryz.ntmps118
    go_upto_region 1 with (fail)
    obtain ⟨WX, hWX⟩ : ∃ WX, (w.alloc (.cells #[.slice ao zs.length cap] 39)).alloc (.cells #[.int .i64 ph, .slice ga gs.length gc, .slice ba bs.length bc, .int .i64 at'] 40) = WX := ⟨_, rfl⟩
    rw [hWX] at b0 b1 k0
    simp only [hWX]
    have HX0 : Hid (∀ u, Kept WX u → Cells u w.heap.size 39 #[.slice ao zs.length cap]) := fun u hu => b0.kept hu
    have HX1 : Hid (∀ u, Kept WX u → Cells u (w.heap.size + 1) 40 #[.int .i64 ph, .slice ga gs.length gc, .slice ba bs.length bc, .int .i64 at']) := fun u hu => b1.kept hu
    have HKX : Hid (Kept w WX) := k0
    have m1 := (HX1.out WX (Below.refl _ _)).cell 1
    have m3 := (HX1.out WX (Below.refl _ _)).cell 3
    have s0 := (HX0.out WX (Below.refl _ _)).cell 0
    clear hWX b0 b1 k0
    go_wp2_with fail
    go_ret
    exact ⟨by rw [HE.out]; rfl, HKX.out⟩
end Go.Proofs.YtgempjjnfpmndaaGreatDoor
