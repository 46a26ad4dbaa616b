/-
  The contract of chapter 8's model TriOk.
-/
import Derived.Test.YtgempjjnfpmndaaGreatDoorZMrkJ
namespace Go.Proofs.YtgempjjnfpmndaaGreatDoor
open Go.RowKit
attribute [local go_sem] Plain.and7

/-- A value leads to nothing, or to one that was met. -/
def metV (gs bs : List Int) (v : Int) : Bool := decide (blkV v < 0) || decide (blkV v ∈ gs) || decide (blkV v ∈ bs)
def triB (zs gs bs : List Int) (a : Int) : Bool := (slotV zs a).all (metV gs bs)
/-- What TriOk tells. -/
def triR (zs : List Int) (ph : Int) (gs bs : List Int) (at' : Int) : Bool := markR zs ph gs bs at' && (!decide (ph = 1) || bs.all (triB zs gs bs))
theorem tri_no {zs gs bs l : List Int} {k : Nat} (hk : k < l.length) (h : triB zs gs bs (hz l k) = false) : l.all (triB zs gs bs) = false := by
  cases hq : l.all (triB zs gs bs) with
  | false => rfl
  | true =>
    have := List.all_eq_true.1 hq _ (hz_mem hk)
    rw [h] at this
    cases this
theorem tri_yes {zs gs bs l : List Int} (h : ∀ j, j < l.length → triB zs gs bs (hz l j) = true) : l.all (triB zs gs bs) = true := by
  rw [List.all_eq_true]
  intro x hx
  obtain ⟨j, hj, e⟩ := List.getElem_of_mem hx
  have := h j hj
  rw [hz_get hj, e] at this
  exact this
theorem metV_no {gs bs l : List Int} {k : Nat} (hk : k < l.length) (h : metV gs bs (hz l k) = false) : l.all (metV gs bs) = false := by
  cases hq : l.all (metV gs bs) with
  | false => rfl
  | true =>
    have := List.all_eq_true.1 hq _ (hz_mem hk)
    rw [h] at this
    cases this
theorem metV_yes {gs bs l : List Int} (h : ∀ j, j < l.length → metV gs bs (hz l j) = true) : l.all (metV gs bs) = true := by
  rw [List.all_eq_true]
  intro x hx
  obtain ⟨j, hj, e⟩ := List.getElem_of_mem hx
  have := h j hj
  rw [hz_get hj, e] at this
  exact this
theorem markR_met {zs gs bs : List Int} {ph at' : Int} (h : markR zs ph gs bs at' = true) : slabOk zs = true ∧ Met zs gs ∧ Met zs bs ∧ (0 ≤ ph ∧ ph ≤ 2) := by
  unfold markR at h
  simp only [Bool.and_eq_true, decide_eq_true_eq] at h
  exact ⟨h.1.1.1.1.1, places_iff.1 h.1.1.1.2, places_iff.1 h.1.1.2, h.1.1.1.1.2⟩
theorem markR_heap {zs gs bs : List Int} {at' : Int} (h : markR zs 1 gs bs at' = true) : heapR zs = true := by
  unfold markR at h
  simp at h
  exact h.2.2
set_option maxHeartbeats 16000000 in
set_option maxRecDepth 100000 in
theorem spec_TriOk_ok (w : World) (ao ga ba : Option Addr) (cap gc bc : Nat) (zs gs bs : List Int) (ph at' : Int) (hI : Ints w ao zs) (hl : zs.length ≤ 1048576) (hm : MkI w ga ba gc bc gs bs) :
    Calls Tryz.prog 45 #[.agg #[.slice ao zs.length cap], .agg #[.int .i64 ph, .slice ga gs.length gc, .slice ba bs.length bc, .int .i64 at']] w fun e w' => e = .returned (.bool (triR zs ph gs bs at')) ∧ Kept w w' := by
  have b0 := (Cells.new w 39 #[.slice ao zs.length cap]).alloc (.cells #[.int .i64 ph, .slice ga gs.length gc, .slice ba bs.length bc, .int .i64 at'] 40)
  have b1 := Cells.new (w.alloc (.cells #[.slice ao zs.length cap] 39)) 40 #[.int .i64 ph, .slice ga gs.length gc, .slice ba bs.length bc, .int .i64 at']
  have k0 : Kept w ((w.alloc (.cells #[.slice ao zs.length cap] 39)).alloc (.cells #[.int .i64 ph, .slice ga gs.length gc, .slice ba bs.length bc, .int .i64 at'] 40)) := (Kept.alloc (Below.refl _ _) _).alloc _
  simp only [World.size_alloc] at b1
  have HI : Hid (Ints w ao zs) := hI
  have HG : Hid (Ints w ga gs) := hm.g
  have HB : Hid (Ints w ba bs) := hm.b
  have hgl := hm.gl
  have hbl := hm.bl
  have hMk := fun (u : World) (hu : Kept w u) => spec_MarkerOk_ok u ao ga ba cap gc bc zs gs bs ph at' (Ints.kept HI.out hu) hl (hm.kept hu)
  cases hmr : markR zs ph gs bs at' with
  | false =>
    have HE : Hid (triR zs ph gs bs at' = false) := by simp [Hid, triR, hmr]
    rw [hmr] at hMk
    clear hmr hm hI
    go_enter Tryz.func45, Tryz.ntmps45
    go_upto_region 1 with (fail)
    obtain ⟨WX, hWX⟩ : ∃ WX, (w.alloc (.cells #[.slice ao zs.length cap] 39)).alloc (.cells #[.int .i64 ph, .slice ga gs.length gc, .slice ba bs.length bc, .int .i64 at'] 40) = WX := ⟨_, rfl⟩
    rw [hWX] at b0 b1 k0
    simp only [hWX]
    have HX0 : Hid (∀ u, Kept WX u → Cells u w.heap.size 39 #[.slice ao zs.length cap]) := fun u hu => b0.kept hu
    have HX1 : Hid (∀ u, Kept WX u → Cells u (w.heap.size + 1) 40 #[.int .i64 ph, .slice ga gs.length gc, .slice ba bs.length bc, .int .i64 at']) := fun u hu => b1.kept hu
    have HKX : Hid (Kept w WX) := k0
    have s0 := (HX0.out WX (Below.refl _ _)).cell 0
    have m0 := (HX1.out WX (Below.refl _ _)).cell 0
    have m1 := (HX1.out WX (Below.refl _ _)).cell 1
    have m2 := (HX1.out WX (Below.refl _ _)).cell 2
    have m3 := (HX1.out WX (Below.refl _ _)).cell 3
    clear hWX b0 b1 k0
    go_wp2_with (first | (go_at_call 70; refine (hMk _ HKX.out).mono ?_; rintro e w1 ⟨rfl, hk1⟩))
    go_ret
    exact ⟨by rw [HE.out]; rfl, Kept.trans HKX.out hk1⟩
  | true =>
    rw [hmr] at hMk
    obtain ⟨hok, _, hM, _⟩ := markR_met hmr
    have HO : Hid (slabOk zs = true) := hok
    have HM : Hid (Met zs bs) := hM
    by_cases hph : ph = 1
    · have HR : Hid (triR zs ph gs bs at' = bs.all (triB zs gs bs)) := by rw [Hid, triR, hmr]; simp [hph]
      subst hph
      clear hmr hm hI hok hM
      go_enter Tryz.func45, Tryz.ntmps45
      go_upto_region 1 with (fail)
      obtain ⟨WX, hWX⟩ : ∃ WX, (w.alloc (.cells #[.slice ao zs.length cap] 39)).alloc (.cells #[.int .i64 1, .slice ga gs.length gc, .slice ba bs.length bc, .int .i64 at'] 40) = WX := ⟨_, rfl⟩
      rw [hWX] at b0 b1 k0
      simp only [hWX]
      have HX0 : Hid (∀ u, Kept WX u → Cells u w.heap.size 39 #[.slice ao zs.length cap]) := fun u hu => b0.kept hu
      have HX1 : Hid (∀ u, Kept WX u → Cells u (w.heap.size + 1) 40 #[.int .i64 1, .slice ga gs.length gc, .slice ba bs.length bc, .int .i64 at']) := fun u hu => b1.kept hu
      have HKX : Hid (Kept w WX) := k0
      have s0 := (HX0.out WX (Below.refl _ _)).cell 0
      have m0 := (HX1.out WX (Below.refl _ _)).cell 0
      have m1 := (HX1.out WX (Below.refl _ _)).cell 1
      have m2 := (HX1.out WX (Below.refl _ _)).cell 2
      have m3 := (HX1.out WX (Below.refl _ _)).cell 3
      clear hWX b0 b1 k0
      go_upto_region 3 with (first | (go_at_call 70; refine (hMk _ HKX.out).mono ?_; rintro e w1 ⟨rfl, hk1⟩))
      have HK3 : Hid (Kept WX w1) := hk1
      clear s0 m0 m1 m2 m3 hk1 hMk
      go_wp2_with fail
      go_loopw [5] (fun i wr => ∃ k : Nat, i = .int .i64 k ∧ k ≤ bs.length ∧ Hid (∀ j, j < k → triB zs gs bs (hz bs j) = true) ∧ Kept WX wr) (fun i _ => bs.length - (intOf i).toNat)
      case atStart => exact ⟨0, rfl, Nat.zero_le _, fun j hj => by omega, HK3.out⟩
      case round =>
        obtain ⟨k, rfl, hk, HY, hK⟩ := hrel
        have m2 := (HX1.out _ hK).cell 2
        have m0 := (HX1.out _ hK).cell 0
        have s0 := (HX0.out _ hK).cell 0
        by_cases hlt : k < bs.length
        · have hka := HM.out.2 _ (hz_mem hlt)
          obtain ⟨n, en, hn, hg, esl, b, hbm, hbn⟩ := kind_nat hka
          have HH2 : Hid (triB zs gs bs (hz bs k) = (slotV zs (hz bs k)).all (metV gs bs)) := rfl
          have HL3 : Hid (∀ u, Kept w u → Calls Tryz.prog 77 #[.agg #[.slice ao zs.length cap], .int .i64 (n : Int)] u fun e w' => ∃ v, e = .returned v ∧ OwnL w' u.heap.size v (slotsL zs (hz bs k)) ∧ Kept u w') := fun u hu => by
            have := l3Slots_ok u ao cap zs n (Ints.kept HI.out hu) hl hg
            rw [← esl] at this
            exact this
          obtain ⟨b1, o1, e1, hc1⟩ := Ints.at (Ints.kept HB.out (Kept.trans HKX.out hK)) hlt
          have c1 := hc1 k hlt
          rw [en] at c1
          have lb1 : b1 < wr.heap.size := World.block_lt_of_cell? _ _ c1
          have HSV : Hid (∀ i, i < (slotsL zs (hz bs k)).length → hz (slotV zs (hz bs k)) i = hz zs (hz (slotsL zs (hz bs k)) i).toNat) := fun i hi => slotV_at hi
          have HSL : Hid ((slotV zs (hz bs k)).length = (slotsL zs (hz bs k)).length) := slotV_len _ _
          have hsl2 : (slotsL zs (hz bs k)).length ≤ zs.length := by
            rw [esl]
            have := slL_len n (kd zs n) (sz zs n)
            have := hg.le
            omega
          have HSP : Hid (∀ i, i < (slotsL zs (hz bs k)).length → ∃ p : Nat, hz (slotsL zs (hz bs k)) i = p ∧ p < zs.length) := fun i hi => by
            rw [esl] at hi ⊢
            exact slL_at hg hi
          have q1 : (k : Int) < (bs.length : Int) := by omega
          have q0 : (0 : Int) ≤ (k : Int) := by omega
          obtain ⟨sl, hsl0⟩ : ∃ sl, slotsL zs (hz bs k) = sl := ⟨_, rfl⟩
          obtain ⟨sv, hsv0⟩ : ∃ sv, slotV zs (hz bs k) = sv := ⟨_, rfl⟩
          rw [hsl0] at HL3 HSV HSL HSP hsl2
          rw [hsv0] at HH2 HSV HSL
          have HC1 : Hid (wr.cell? ⟨b1, o1 + k, none⟩ = some (.int .i64 (n : Int))) := c1
          have HK5 : Hid (Kept WX wr) := hK
          subst e1
          clear hc1 hka esl hbm hbn hg c1 hsl0 hsv0 hK b en
          have kd : Kept wr wr.drew := (Below.refl _ wr).drew
          have d0 : wr.drew.cell? ⟨w.heap.size, 0, none⟩ = some (.slice ao zs.length cap) := (HX0.out _ (Kept.trans HK5.out kd)).cell 0
          have d1 : wr.drew.cell? ⟨w.heap.size + 1, 2, none⟩ = some (.slice (some ⟨b1, o1, none⟩) bs.length bc) := (HX1.out _ (Kept.trans HK5.out kd)).cell 2
          have d2 : wr.drew.cell? ⟨b1, o1 + k, none⟩ = some (.int .i64 (n : Int)) := ((kd).cell (p := ⟨b1, o1 + k, none⟩) lb1).trans HC1.out
          have K2 : Kept w wr.drew := Kept.trans HKX.out (Kept.trans HK5.out kd)
          have HA : Hid (∀ u, Kept wr u → u.cell? ⟨w.heap.size, 0, none⟩ = some (.slice ao zs.length cap) ∧ u.cell? ⟨w.heap.size + 1, 2, none⟩ = some (.slice (some ⟨b1, o1, none⟩) bs.length bc) ∧ u.cell? ⟨b1, o1 + k, none⟩ = some (.int .i64 (n : Int))) := fun u hu => ⟨(HX0.out _ (Kept.trans HK5.out hu)).cell 0, (HX1.out _ (Kept.trans HK5.out hu)).cell 2, ((hu).cell (p := ⟨b1, o1 + k, none⟩) lb1).trans HC1.out⟩
          go_wp2_with fail
          go_region_held3 (fun w' => w'.cell? ⟨w.heap.size, 0, none⟩ = some (.slice ao zs.length cap) ∧ w'.cell? ⟨w.heap.size + 1, 2, none⟩ = some (.slice (some ⟨b1, o1, none⟩) bs.length bc) ∧ w'.cell? ⟨b1, o1 + k, none⟩ = some (.int .i64 (n : Int)))
            (first | exact HA.out _ (by assumption) | go_keep)
            ((go_at_call 77; refine (HL3.out _ K2).mono ?_; rintro e w6 ⟨v6, rfl, hO6, hk6⟩; have kx : Kept wr w6 := kd.trans hk6; obtain ⟨so, sc, rfl, hI6⟩ := hO6.ints))
          have HI6 : Hid (Ints w6 so sl) := hI6
          have HK6 : Hid (Kept WX w6) := Kept.trans HK5.out kx
          clear hI6 hO6 kx hk6 d0 d1 d2 K2 HA HL3 kd
          go_wp2_with fail
          go_loopw [7] (fun i wr => ∃ j : Nat, i = .int .i64 j ∧ j ≤ sl.length ∧ Hid (∀ i, i < j → metV gs bs (hz sv i) = true) ∧ Kept w6 wr) (fun i _ => sl.length - (intOf i).toNat)
          case atStart => exact ⟨0, rfl, Nat.zero_le _, fun i hi => by omega, Below.refl _ _⟩
          case round =>
            obtain ⟨j, rfl, hj, HZ, hK7⟩ := hrel
            have HK7 : Hid (Kept WX wr) := Kept.trans HK6.out hK7
            by_cases hlj : j < sl.length
            · obtain ⟨p, hp, hpl⟩ := HSP.out j hlj
              have hjv : j < sv.length := by rw [HSL.out]; exact hlj
              have evj : hz sv j = hz zs p := by rw [HSV.out j hlj, hp, Int.toNat_natCast]
              obtain ⟨b5, o5, e5, hc5⟩ := Ints.at (Ints.kept HI6.out hK7) hlj
              have c5 := hc5 j hlj
              rw [hp] at c5
              obtain ⟨b6, o6, e6, hc6⟩ := Ints.at (Ints.kept HI.out (Kept.trans HKX.out HK7.out)) hpl
              have c6 := hc6 p hpl
              have l5 : b5 < wr.heap.size := World.block_lt_of_cell? _ _ c5
              have l6 : b6 < wr.heap.size := World.block_lt_of_cell? _ _ c6
              have kd7 : ∀ u, Kept wr.drew u → Kept wr u := fun u hu => Kept.trans (Below.refl _ wr).drew hu
              have y0 : ∀ u, Kept wr.drew u → u.cell? ⟨w.heap.size, 0, none⟩ = some (.slice (some ⟨b6, o6, none⟩) zs.length cap) := fun u hu => by
                have := (HX0.out u (Kept.trans HK7.out (kd7 u hu))).cell 0
                rw [e6] at this
                exact this
              have y1 : ∀ u, Kept wr.drew u → u.cell? ⟨b5, o5 + j, none⟩ = some (.int .i64 (p : Int)) := fun u hu => ((kd7 u hu).cell (p := ⟨b5, o5 + j, none⟩) l5).trans c5
              have y2 : ∀ u, Kept wr.drew u → u.cell? ⟨b6, o6 + p, none⟩ = some (.int .i64 (hz zs p)) := fun u hu => ((kd7 u hu).cell (p := ⟨b6, o6 + p, none⟩) l6).trans c6
              have g1 : (j : Int) < (sl.length : Int) := by omega
              have g2 : (0 : Int) ≤ (j : Int) := by omega
              have g3 : (p : Int) < (zs.length : Int) := by omega
              have g4 : (0 : Int) ≤ (p : Int) := by omega
              have g5 : ((p : Int)).toNat = p := by omega
              obtain ⟨bv, hbv⟩ : ∃ bv, blkV (hz zs p) = bv := ⟨_, rfl⟩
              have C1 : Hid (∀ u, Kept wr.drew u → Calls Tryz.prog 75 #[.int .i64 (hz zs p)] u fun e w' => e = .returned (.int .i64 bv) ∧ Kept u w') := fun u _ => calls_kept (by have := l7Block_ok (hz zs p) u; rw [hbv] at this; exact this)
              have HAM : Hid (metV gs bs (hz sv j) = (decide (bv < 0) || decide (bv ∈ gs) || decide (bv ∈ bs))) := by rw [Hid, evj, metV, hbv]
              have HKW7 : Hid (∀ u, Kept wr.drew u → Kept w6 u) := fun u hu => Kept.trans hK7 (kd7 u hu)
              subst e5
              subst e6
              clear hc5 hc6 c5 c6 hbv evj hp hK7
              go_wp2_with fail
              refine wp_region_seqL (by kernel_rfl) (by kernel_rfl) ?_
              repeat (first
                | (refine SeqL.skip (by rfl) ?_; simp only [Act.put, List.setIfInBounds_toArray, List.set_cons_zero, List.set_cons_succ])
                | (refine SeqL.pure ?_ (by rfl) ?_ ?_; rotate_left; (focus (intro u hu; have y0' := y0 u hu; have y1' := y1 u hu; have y2' := y2 u hu; go_simp; first | done | exact rfl)); simp only [Act.put, List.setIfInBounds_toArray, List.set_cons_zero, List.set_cons_succ])
                | (refine SeqL.call _ _ _ (by rfl) ?_ C1.out ?_; (focus (intro u; go_simp; done)); simp only [Act.put, List.setIfInBounds_toArray, List.set_cons_zero, List.set_cons_succ]))
              refine SeqL.nil ?_
              intro w8 hu8
              have K8 := HKW7.out w8 hu8
              have HK8 : Hid (Kept WX w8) := Kept.trans HK6.out K8
              have m8 := (HX1.out _ HK8.out).cell 2
              have m81 := (HX1.out _ HK8.out).cell 1
              have hIg := l7In_ok w8 ga gc gs bv (Ints.kept HG.out (Kept.trans HKX.out HK8.out)) hgl
              have hIn := l7In_ok w8 (some ⟨b1, o1, none⟩) bc bs bv (Ints.kept HB.out (Kept.trans HKX.out HK8.out)) hbl
              have HK8' : Hid (Kept w6 w8) := K8
              have tokg : True := trivial
              clear y0 y1 y2 C1 kd7 K8 hu8
              by_cases h0 : (0 : Int) ≤ bv
              · have hd0 : decide ((0 : Int) ≤ bv) = true := by simpa using h0
                have hlt0 : decide (bv < 0) = false := by simp; omega
                obtain ⟨rg, hrg⟩ : ∃ rg, decide (bv ∈ gs) = rg := ⟨_, rfl⟩
                obtain ⟨rb, hrb⟩ : ∃ rb, decide (bv ∈ bs) = rb := ⟨_, rfl⟩
                rw [hrg] at hIg HAM
                rw [hrb] at hIn HAM
                have HAM1 : Hid (metV gs bs (hz sv j) = (rg || rb)) := by rw [Hid, HAM.out, hlt0, Bool.false_or]
                clear h0 hrg hrb hlt0 HAM
                cases rg with
                | true =>
                  have HAM2 : Hid (metV gs bs (hz sv j) = true) := by rw [Hid, HAM1.out]; rfl
                  go_wp2_with (first | (go_at_call 76; refine hIg.mono ?_; rintro e wx ⟨rfl, rfl⟩))
                  go_roundw
                  case rel =>
                    refine ⟨j + 1, by go_num, by omega, fun i hi => ?_, HK8'.out⟩
                    rcases Nat.lt_or_ge i j with h | h
                    · exact HZ.out i h
                    · obtain rfl : i = j := by omega
                      exact HAM2.out
                  case measure => simp [intOf]; omega
                | false =>
                  have HAM3 : Hid (metV gs bs (hz sv j) = rb) := by rw [Hid, HAM1.out]; rfl
                  cases rb with
                  | true =>
                    have HAM2 : Hid (metV gs bs (hz sv j) = true) := HAM3.out
                    go_wp2_with (first | (go_at_call 76; have _t := tokg; refine hIg.mono ?_; rintro e wx ⟨rfl, rfl⟩; clear tokg) | (go_at_call 76; refine hIn.mono ?_; rintro e wx ⟨rfl, rfl⟩))
                    go_roundw
                    case rel =>
                      refine ⟨j + 1, by go_num, by omega, fun i hi => ?_, HK8'.out⟩
                      rcases Nat.lt_or_ge i j with h | h
                      · exact HZ.out i h
                      · obtain rfl : i = j := by omega
                        exact HAM2.out
                    case measure => simp [intOf]; omega
                  | false =>
                    have HE : Hid (triR zs 1 gs bs at' = false) := by rw [Hid, HR.out]; exact tri_no hlt (by rw [HH2.out]; exact metV_no hjv HAM3.out)
                    go_wp2_with (first | (go_at_call 76; have _t := tokg; refine hIg.mono ?_; rintro e wx ⟨rfl, rfl⟩; clear tokg) | (go_at_call 76; refine hIn.mono ?_; rintro e wx ⟨rfl, rfl⟩))
                    go_ret
                    exact ⟨by rw [HE.out]; rfl, Kept.trans HKX.out HK8.out⟩
              · have hd0 : decide ((0 : Int) ≤ bv) = false := by simpa using h0
                have HAM2 : Hid (metV gs bs (hz sv j) = true) := by
                  rw [Hid, HAM.out]
                  have : decide (bv < 0) = true := by simp; omega
                  rw [this, Bool.true_or, Bool.true_or]
                clear h0 hIn hIg
                go_wp2_with fail
                go_roundw
                case rel =>
                  refine ⟨j + 1, by go_num, by omega, fun i hi => ?_, HK8'.out⟩
                  rcases Nat.lt_or_ge i j with h | h
                  · exact HZ.out i h
                  · obtain rfl : i = j := by omega
                    exact HAM2.out
                case measure => simp [intOf]; omega
            · obtain rfl : j = sl.length := by omega
              have HHk : Hid (triB zs gs bs (hz bs k) = true) := by rw [Hid, HH2.out]; exact metV_yes (fun i hi => HZ.out i (by rw [HSL.out] at hi; exact hi))
              clear hK7
              go_wp2_with fail
              go_roundw
              case rel =>
                refine ⟨k + 1, by go_num, by omega, fun j hj => ?_, HK7.out⟩
                rcases Nat.lt_or_ge j k with h | h
                · exact HY.out j h
                · obtain rfl : j = k := by omega
                  exact HHk.out
              case measure => simp [intOf]; omega
        · obtain rfl : k = bs.length := by omega
          have HE : Hid (triR zs 1 gs bs at' = true) := by rw [Hid, HR.out]; exact tri_yes HY.out
          have HK2 : Hid (Kept WX wr) := hK
          clear hK
          go_wp2_with fail
          go_ret
          exact ⟨by rw [HE.out]; rfl, Kept.trans HKX.out HK2.out⟩
    · have HE : Hid (triR zs ph gs bs at' = true) := by rw [Hid, triR, hmr]; simp [hph]
      have hdp : (ph == 1) = false := by simpa using hph
      clear hmr hm hI hok hM hph
      go_enter Tryz.func45, Tryz.ntmps45
      go_upto_region 1 with (fail)
      obtain ⟨WX, hWX⟩ : ∃ WX, (w.alloc (.cells #[.slice ao zs.length cap] 39)).alloc (.cells #[.int .i64 ph, .slice ga gs.length gc, .slice ba bs.length bc, .int .i64 at'] 40) = WX := ⟨_, rfl⟩
      rw [hWX] at b0 b1 k0
      simp only [hWX]
      have HX0 : Hid (∀ u, Kept WX u → Cells u w.heap.size 39 #[.slice ao zs.length cap]) := fun u hu => b0.kept hu
      have HX1 : Hid (∀ u, Kept WX u → Cells u (w.heap.size + 1) 40 #[.int .i64 ph, .slice ga gs.length gc, .slice ba bs.length bc, .int .i64 at']) := fun u hu => b1.kept hu
      have HKX : Hid (Kept w WX) := k0
      have s0 := (HX0.out WX (Below.refl _ _)).cell 0
      have m0 := (HX1.out WX (Below.refl _ _)).cell 0
      have m1 := (HX1.out WX (Below.refl _ _)).cell 1
      have m2 := (HX1.out WX (Below.refl _ _)).cell 2
      have m3 := (HX1.out WX (Below.refl _ _)).cell 3
      clear hWX b0 b1 k0
      go_upto_region 3 with (first | (go_at_call 70; refine (hMk _ HKX.out).mono ?_; rintro e w1 ⟨rfl, hk1⟩))
      have HK3 : Hid (Kept WX w1) := hk1
      clear s0 m0 m1 m2 m3 hk1 hMk
      go_wp2_with fail
      go_loopw [5] (fun i wr => i = .int .i64 0 ∧ Kept WX wr) (fun _ _ => 0)
      case atStart => exact ⟨rfl, HK3.out⟩
      case round =>
        obtain ⟨rfl, hK⟩ := hrel
        have m2 := (HX1.out _ hK).cell 2
        have m0 := (HX1.out _ hK).cell 0
        have HK2 : Hid (Kept WX wr) := hK
        clear hK
        by_cases hb0 : 0 < bs.length
        · have hd0 : decide ((0 : Int) < (bs.length : Int)) = true := by rw [decide_eq_true_iff]; omega
          go_wp2_with fail
          go_ret
          exact ⟨by rw [HE.out]; rfl, Kept.trans HKX.out HK2.out⟩
        · have hd0 : decide ((0 : Int) < (bs.length : Int)) = false := by rw [decide_eq_false_iff_not]; omega
          go_wp2_with fail
          go_ret
          exact ⟨by rw [HE.out]; rfl, Kept.trans HKX.out HK2.out⟩
end Go.Proofs.YtgempjjnfpmndaaGreatDoor
