/-
  What the laws do with units: how great (chapter 15).
  What the laws do with units: whether two are the same (chapter 15).
  What the laws do with units: a copy; and how such an argument is read (chapter 15).
  What the laws do with units: a copy of the whole; and how such an argument is read (chapter 15).
-/
import Derived.Test.YtgempjjnfpmndaaGreatDoorUntP
namespace Go.Proofs.YtgempjjnfpmndaaGreatDoor
open Go.ChangeShapes Go.WideShapes Go.ChangeAt Go.RowKit
set_option linter.unusedSimpArgs false
set_option linter.unusedVariables false
set_option maxHeartbeats 8000000 in
set_option maxRecDepth 100000 in
theorem szStepS_ok (w : World) (ao : Option Addr) (cap : Nat) (ss : List Stp) (l : Int) (hm : ss.length ≤ maxLen) (h0 : 0 ≤ l) (h1 : l ≤ 1048576) :
    Calls Tryz.prog 141 #[.slice ao ss.length cap, .int .i64 l] w fun e w' => e = .returned (.int .i64 (leftT l ss.length)) ∧ w' = w := by
  have hml' : ss.length ≤ 9223372036854775807 := by unfold maxLen at hm; omega
  by_cases hneg : l - (ss.length : Int) < 0
  · have HL : Hid (leftT l ss.length = -1) := by rw [Hid, leftT, if_neg (by omega)]
    go_enter Tryz.func141, Tryz.ntmps141
    go_wp2_with fail
    go_ret
    exact ⟨by rw [HL.out]; rfl, rfl⟩
  · have HL : Hid (leftT l ss.length = l - (ss.length : Int)) := by rw [Hid, leftT, if_pos (by omega)]
    go_enter Tryz.func141, Tryz.ntmps141
    go_wp2_with fail
    go_ret
    exact ⟨by rw [HL.out]; rfl, rfl⟩
set_option maxHeartbeats 8000000 in
set_option maxRecDepth 100000 in
theorem szCode_ok (w : World) (x y : Int) (ao : Option Addr) (cap : Nat) (ss : List Stp) (l : Int) (hm : ss.length ≤ maxLen) (h0 : 0 ≤ l) (h1 : l ≤ 1048576) :
    Calls Tryz.prog 95 #[.agg #[.int .i64 x, .int .i64 y, .slice ao ss.length cap], .int .i64 l] w fun e w' => e = .returned (.int .i64 (leftT l ss.length)) ∧ Kept w w' := by
  have k0 : Kept w (w.alloc (.cells #[.int .i64 x, .int .i64 y, .slice ao ss.length cap] 129)) := Kept.alloc (Below.refl _ _) _
  have hC := szStepS_ok (w.alloc (.cells #[.int .i64 x, .int .i64 y, .slice ao ss.length cap] 129)) ao cap ss l hm h0 h1
  by_cases hb : ((ss.length : Nat) : Int) ≤ l
  · rw [show leftT l ss.length = l - ((ss.length : Nat) : Int) from if_pos hb] at hC ⊢
    obtain ⟨r, hr⟩ : ∃ r, l - ((ss.length : Nat) : Int) = r := ⟨_, rfl⟩
    rw [hr] at hC ⊢
    have hd : decide (r < 0) = false := decide_eq_false (by omega)
    clear hr hb h0 h1 hm
    go_enter Tryz.func95, Tryz.ntmps95
    go_wp2_with (go_at_call 141; refine hC.mono ?_; rintro e w1 ⟨rfl, rfl⟩)
    go_ret
    exact ⟨rfl, k0⟩
  · rw [show leftT l ss.length = -1 from if_neg hb] at hC ⊢
    clear hb h0 h1 hm
    go_enter Tryz.func95, Tryz.ntmps95
    go_wp2_with (go_at_call 141; refine hC.mono ?_; rintro e w1 ⟨rfl, rfl⟩)
    go_ret
    exact ⟨rfl, k0⟩
set_option maxHeartbeats 8000000 in
set_option maxRecDepth 100000 in
theorem szCodeS_ok (w : World) (ao : Option Addr) (cap : Nat) (cs : List Cod) (l : Int) (hA : CodsA w ao cs) (hF : FitC cs) (h0 : 0 ≤ l) (h1 : l ≤ 1048576) :
    Calls Tryz.prog 47 #[.slice ao cs.length cap, .int .i64 l] w fun e w' => e = .returned (.int .i64 (leftT l (blkC cs))) ∧ Kept w w' := by
  have HA : Hid _ := hA
  have HF : Hid _ := hF
  have hml' : cs.length ≤ 9223372036854775807 := by have := hF.1; unfold maxLen at this; omega
  clear hA hF
  by_cases hneg : l - (cs.length : Int) < 0
  · have HL : Hid (leftT l (blkC cs) = -1) := by rw [Hid, leftT, if_neg (by unfold blkC; omega)]
    go_enter Tryz.func47, Tryz.ntmps47
    go_wp2_with fail
    go_ret
    exact ⟨by rw [HL.out]; rfl, Below.refl _ _⟩
  · go_enter Tryz.func47, Tryz.ntmps47
    go_wp2_with fail
    go_loopw [1, 5] (fun lv iv wr => ∃ (k : Nat), iv = .int .i64 k ∧ k ≤ cs.length ∧ ∃ r, lv = .int .i64 r ∧ Hid (r = l - (cs.length : Int) - ((sumC (cs.take k) : Nat) : Int) ∧ (cs.length : Int) + ((sumC (cs.take k) : Nat) : Int) ≤ l) ∧ Hid (Kept w wr)) (fun _ i _ => cs.length - (intOf i).toNat)
    case atStart => exact ⟨0, rfl, Nat.zero_le _, _, rfl, ⟨by simp [sumC], by simp [sumC]; omega⟩, Below.refl _ _⟩
    case round =>
      obtain ⟨k, rfl, hk, r0, rfl, hre, HK⟩ := hrel
      obtain ⟨hr00, hle⟩ := hre.out
      by_cases hlt : k < cs.length
      · obtain ⟨x, hx⟩ : ∃ x, cs[k]? = some x := ⟨cs[k], List.getElem?_eq_getElem hlt⟩
        have q1 : (k : Int) < (cs.length : Int) := by omega
        have q2 : (k : Int) + 1 ≤ 9223372036854775807 := by omega
        have hst := sumC_take hx
        have hsl := sumC_le cs (k + 1)
        obtain ⟨b, off, xo, xc, rfl, g0, g1, g2, hX⟩ := (CodsA.kept HA.out HK.out) k x hx
        have hr1 : 0 ≤ r0 := by omega
        have hr2 : r0 ≤ 1048576 := by omega
        have hC := szCode_ok wr x.n x.v xo xc x.ss r0 (HF.out.2 x (List.mem_of_getElem? hx)) hr1 hr2
        by_cases hf : ((x.ss.length : Nat) : Int) ≤ r0
        · rw [show leftT r0 x.ss.length = r0 - ((x.ss.length : Nat) : Int) from if_pos hf] at hC
          obtain ⟨r, hr⟩ : ∃ r, r0 - ((x.ss.length : Nat) : Int) = r := ⟨_, rfl⟩
          have HN : Hid (r = l - (cs.length : Int) - ((sumC (cs.take (k + 1)) : Nat) : Int) ∧ (cs.length : Int) + ((sumC (cs.take (k + 1)) : Nat) : Int) ≤ l) := ⟨by omega, by omega⟩
          rw [hr] at hC
          have hd : decide (r < 0) = false := decide_eq_false (by omega)
          clear hr hst hsl hle hr00 hre HF HA hneg h0 h1 hml' hx hX hf hr1 hr2
          go_wp2_with (go_at_call 95; refine hC.mono ?_; rintro e wx ⟨rfl, hkx⟩)
          exact ⟨⟨k + 1, by go_num, by omega, r, rfl, HN.out, Kept.trans HK.out hkx⟩, by simp [intOf]; omega⟩
        · rw [show leftT r0 x.ss.length = -1 from if_neg hf] at hC
          have HL : Hid (leftT l (blkC cs) = -1) := by rw [Hid, leftT, if_neg (by unfold blkC; omega)]
          clear hst hsl hle hr00 hre HF HA hneg h0 h1 hml' hx hX hf hr1 hr2
          go_wp2_with (go_at_call 95; refine hC.mono ?_; rintro e wx ⟨rfl, hkx⟩)
          go_ret
          exact ⟨by rw [HL.out]; rfl, Kept.trans HK.out hkx⟩
      · have q1 : ¬ (k : Int) < (cs.length : Int) := by omega
        have HL : Hid (leftT l (blkC cs) = r0) := by
          have e : k = cs.length := by omega
          rw [e, List.take_length] at hle hr00
          rw [Hid, blkC, leftT, if_pos (by omega)]
          omega
        clear hr00 hle
        go_wp2_with fail
        go_ret
        exact ⟨by rw [HL.out]; rfl, HK.out⟩
set_option maxHeartbeats 8000000 in
set_option maxRecDepth 100000 in
theorem szUnit_ok (w : World) (ca ta : Option Addr) (cc tc : Nat) (cs : List Cod) (ts : List ByteArray) (l : Int) (hA : CodsA w ca cs) (hF : FitC cs) (hB : StA w ta ts) (hG : FitT ts) (h0 : 0 ≤ l) (h1 : l ≤ 1048576) :
    Calls Tryz.prog 13 #[.agg #[.slice ca cs.length cc, .slice ta ts.length tc], .int .i64 l] w fun e w' => (∃ r, e = .returned (.int .i64 r) ∧ ((0 ≤ r ∧ decide (r < 0) = false ∧ blkC cs + blkT ts ≤ 1048576) ∨ r = -1)) ∧ Kept w w' := by
  have k0 : Kept w (w.alloc (.cells #[.slice ca cs.length cc, .slice ta ts.length tc] 25)) := Kept.alloc (Below.refl _ _) _
  have bx := Cells.new w 25 #[.slice ca cs.length cc, .slice ta ts.length tc]
  have hC := szCodeS_ok _ ca cc cs l (hA.kept k0) hF h0 h1
  by_cases hb : ((blkC cs : Nat) : Int) ≤ l
  · rw [show leftT l (blkC cs) = l - ((blkC cs : Nat) : Int) from if_pos hb] at hC
    obtain ⟨r, hr⟩ : ∃ r, l - ((blkC cs : Nat) : Int) = r := ⟨_, rfl⟩
    rw [hr] at hC
    have hd : decide (r < 0) = false := decide_eq_false (by omega)
    have HD : Hid (∀ u, Kept (w.alloc (.cells #[.slice ca cs.length cc, .slice ta ts.length tc] 25)) u → Calls Tryz.prog 25 #[.slice ta ts.length tc, .int .i64 r] u fun e w' => e = .returned (.int .i64 (leftT r (blkT ts))) ∧ w' = u) := fun u hu => szStringS_ok u ta tc ts r ((hB.kept k0).kept hu) hG (by omega) (by omega)
    by_cases hb2 : ((blkT ts : Nat) : Int) ≤ r
    · rw [show leftT r (blkT ts) = r - ((blkT ts : Nat) : Int) from if_pos hb2] at HD
      obtain ⟨q, hq⟩ : ∃ q, r - ((blkT ts : Nat) : Int) = q := ⟨_, rfl⟩
      rw [hq] at HD
      have hd2 : decide (q < 0) = false := decide_eq_false (by omega)
      have HZ : Hid (0 ≤ q ∧ blkC cs + blkT ts ≤ 1048576) := ⟨by omega, by omega⟩
      clear hr hq hb hb2 h0 h1 hA hB hF hG
      go_enter Tryz.func13, Tryz.ntmps13
      go_wp2_with (first
        | (have _tk := hk1; go_at_call 25; refine (HD.out _ hk1).mono ?_; rintro e w2 ⟨rfl, rfl⟩)
        | (go_at_call 47; refine hC.mono ?_; rintro e w1 ⟨rfl, hk1⟩; have m := bx.kept hk1; have m0 := m.cell 0; have m1 := m.cell 1))
      go_ret
      exact ⟨⟨q, rfl, .inl ⟨HZ.out.1, hd2, HZ.out.2⟩⟩, Kept.trans k0 hk1⟩
    · rw [show leftT r (blkT ts) = -1 from if_neg hb2] at HD
      clear hr hb hb2 h0 h1 hA hB hF hG
      go_enter Tryz.func13, Tryz.ntmps13
      go_wp2_with (first
        | (have _tk := hk1; go_at_call 25; refine (HD.out _ hk1).mono ?_; rintro e w2 ⟨rfl, rfl⟩)
        | (go_at_call 47; refine hC.mono ?_; rintro e w1 ⟨rfl, hk1⟩; have m := bx.kept hk1; have m0 := m.cell 0; have m1 := m.cell 1))
      go_ret
      exact ⟨⟨-1, rfl, .inr rfl⟩, Kept.trans k0 hk1⟩
  · rw [show leftT l (blkC cs) = -1 from if_neg hb] at hC
    clear hb h0 h1 hA hB hF hG
    go_enter Tryz.func13, Tryz.ntmps13
    go_wp2_with (go_at_call 47; refine hC.mono ?_; rintro e w1 ⟨rfl, hk1⟩)
    go_ret
    exact ⟨⟨-1, rfl, .inr rfl⟩, Kept.trans k0 hk1⟩
end Go.Proofs.YtgempjjnfpmndaaGreatDoor
namespace Go.Proofs.YtgempjjnfpmndaaGreatDoor
open Go.ChangeShapes Go.WideShapes Go.ChangeAt Go.RowKit
set_option linter.unusedSimpArgs false
set_option linter.unusedVariables false
set_option maxHeartbeats 8000000 in
set_option maxRecDepth 100000 in
theorem eqStep_ok (w : World) (o a b : Int) :
    Calls Tryz.prog 186 #[.agg #[.int .i64 o, .int .i64 a, .int .i64 b], .agg #[.int .i64 o, .int .i64 a, .int .i64 b]] w fun e w' => e = .returned (.bool true) ∧ Kept w w' := by
  have h0 : (o != o) = false := by simp
  have h1 : (a != a) = false := by simp
  have h2 : (b != b) = false := by simp
  go_enter Tryz.func186, Tryz.ntmps186
  go_wp2_with fail
  go_ret
  exact ⟨rfl, (Kept.alloc (Below.refl _ w) _).alloc _⟩
set_option maxHeartbeats 8000000 in
set_option maxRecDepth 100000 in
theorem eqStepS_ok (w : World) (ao bo : Option Addr) (ca cb : Nat) (ss : List Stp) (hA : StpsA w ao ss) (hB : StpsA w bo ss) (hl : ss.length ≤ 1048576) :
    Calls Tryz.prog 154 #[.slice ao ss.length ca, .slice bo ss.length cb] w fun e w' => e = .returned (.bool true) ∧ Kept w w' := by
  have HA : Hid _ := hA
  have HB : Hid _ := hB
  clear hA hB
  go_enter Tryz.func154, Tryz.ntmps154
  go_wp2_with fail
  go_loopw [5] (fun i wr => ∃ k : Nat, i = .int .i64 k ∧ k ≤ ss.length ∧ Hid (Kept w wr)) (fun i _ => ss.length - (intOf i).toNat)
  case atStart => exact ⟨0, rfl, Nat.zero_le _, Below.refl _ _⟩
  case round =>
    obtain ⟨k, rfl, hk, HK⟩ := hrel
    by_cases hlt : k < ss.length
    · obtain ⟨t, ht⟩ : ∃ t, ss[k]? = some t := ⟨_, List.getElem?_eq_getElem hlt⟩
      have kd : Kept w wr.drew := Below.drew HK.out
      obtain ⟨b, off, rfl, h0, h1, h2⟩ := (StpsA.kept HA.out kd) k t ht
      obtain ⟨b', off', rfl, h0', h1', h2'⟩ := (StpsA.kept HB.out kd) k t ht
      have hC := eqStep_ok wr.drew t.1 t.2.1 t.2.2
      have q1 : (k : Int) < (ss.length : Int) := by omega
      have q0 : (0 : Int) ≤ (k : Int) := by omega
      have HD : Hid _ := kd
      clear ht kd
      go_wp2_with fail
      go_region_with (go_at_call 186; refine hC.mono ?_; rintro e wx ⟨rfl, hkx⟩)
      all_goals (
        go_wp2_with fail
        go_roundw
        case rel => exact ⟨k + 1, by go_num, by omega, Kept.trans HD.out hkx⟩
        case measure => simp [intOf]; omega)
    · have q1 : ¬ (k : Int) < (ss.length : Int) := by omega
      go_wp2_with fail
      go_ret
      exact ⟨rfl, HK.out⟩
set_option maxHeartbeats 8000000 in
set_option maxRecDepth 100000 in
theorem eqCode_ok (w : World) (x y : Int) (ao bo : Option Addr) (ca cb : Nat) (ss : List Stp) (hA : StpsA w ao ss) (hB : StpsA w bo ss) (hl : ss.length ≤ 1048576) :
    Calls Tryz.prog 111 #[.agg #[.int .i64 x, .int .i64 y, .slice ao ss.length ca], .agg #[.int .i64 x, .int .i64 y, .slice bo ss.length cb]] w fun e w' => e = .returned (.bool true) ∧ Kept w w' := by
  have hk : Kept w ((w.alloc (.cells #[.int .i64 x, .int .i64 y, .slice ao ss.length ca] 91)).alloc (.cells #[.int .i64 x, .int .i64 y, .slice bo ss.length cb] 91)) := (Kept.alloc (Below.refl _ w) _).alloc _
  have hC := eqStepS_ok _ ao bo ca cb ss (hA.kept hk) (hB.kept hk) hl
  have h0 : (x != x) = false := by simp
  have h1 : (y != y) = false := by simp
  clear hA hB
  go_enter Tryz.func111, Tryz.ntmps111
  go_wp2_with (go_at_call 154; refine hC.mono ?_; rintro e w1 ⟨rfl, hK⟩)
  go_ret
  exact ⟨rfl, hk.trans hK⟩
set_option maxHeartbeats 8000000 in
set_option maxRecDepth 100000 in
theorem eqCodeS_ok (w : World) (ao bo : Option Addr) (ca cb : Nat) (cs : List Cod) (hA : CodsA w ao cs) (hB : CodsA w bo cs) (hl : cs.length ≤ 1048576) (hi : ∀ c ∈ cs, c.ss.length ≤ 1048576) :
    Calls Tryz.prog 57 #[.slice ao cs.length ca, .slice bo cs.length cb] w fun e w' => e = .returned (.bool true) ∧ Kept w w' := by
  have HA : Hid _ := hA
  have HB : Hid _ := hB
  have HI : Hid _ := hi
  clear hA hB hi
  go_enter Tryz.func57, Tryz.ntmps57
  go_wp2_with fail
  go_loopw [5] (fun i wr => ∃ k : Nat, i = .int .i64 k ∧ k ≤ cs.length ∧ Hid (Kept w wr)) (fun i _ => cs.length - (intOf i).toNat)
  case atStart => exact ⟨0, rfl, Nat.zero_le _, Below.refl _ _⟩
  case round =>
    obtain ⟨k, rfl, hk, HK⟩ := hrel
    by_cases hlt : k < cs.length
    · obtain ⟨t, ht⟩ : ∃ t, cs[k]? = some t := ⟨_, List.getElem?_eq_getElem hlt⟩
      have kd : Kept w wr.drew := Below.drew HK.out
      obtain ⟨b, off, xo, xc, rfl, h0, h1, h2, hX⟩ := (CodsA.kept HA.out kd) k t ht
      obtain ⟨b', off', yo, yc, rfl, h0', h1', h2', hY⟩ := (CodsA.kept HB.out kd) k t ht
      have hC := eqCode_ok wr.drew t.n t.v xo yo xc yc t.ss hX hY (HI.out t (List.mem_of_getElem? ht))
      have q1 : (k : Int) < (cs.length : Int) := by omega
      have q0 : (0 : Int) ≤ (k : Int) := by omega
      have HD : Hid _ := kd
      clear ht kd hX hY
      go_wp2_with fail
      go_region_with (go_at_call 111; refine hC.mono ?_; rintro e wx ⟨rfl, hkx⟩)
      all_goals (
        go_wp2_with fail
        go_roundw
        case rel => exact ⟨k + 1, by go_num, by omega, Kept.trans HD.out hkx⟩
        case measure => simp [intOf]; omega)
    · have q1 : ¬ (k : Int) < (cs.length : Int) := by omega
      go_wp2_with fail
      go_ret
      exact ⟨rfl, HK.out⟩
set_option maxHeartbeats 8000000 in
set_option maxRecDepth 100000 in
theorem eqUnit_ok (w : World) (ca cb ta tb : Option Addr) (ac bc at' bt : Nat) (cs : List Cod) (ts : List ByteArray) (hA : CodsA w ca cs) (hB : CodsA w cb cs) (hC : StA w ta ts) (hD : StA w tb ts) (hl : cs.length ≤ 1048576) (hi : ∀ c ∈ cs, c.ss.length ≤ 1048576) (ht : ts.length ≤ 1048576) :
    Calls Tryz.prog 17 #[.agg #[.slice ca cs.length ac, .slice ta ts.length at'], .agg #[.slice cb cs.length bc, .slice tb ts.length bt]] w fun e w' => e = .returned (.bool true) ∧ Kept w w' := by
  have hk : Kept w ((w.alloc (.cells #[.slice ca cs.length ac, .slice ta ts.length at'] 38)).alloc (.cells #[.slice cb cs.length bc, .slice tb ts.length bt] 38)) := (Kept.alloc (Below.refl _ w) _).alloc _
  have bx := (Cells.new w 38 #[.slice ca cs.length ac, .slice ta ts.length at']).alloc (.cells #[.slice cb cs.length bc, .slice tb ts.length bt] 38)
  have by' := Cells.new (w.alloc (.cells #[.slice ca cs.length ac, .slice ta ts.length at'] 38)) 38 #[.slice cb cs.length bc, .slice tb ts.length bt]
  simp only [World.size_alloc] at by'
  have h1 := eqCodeS_ok _ ca cb ac bc cs (hA.kept hk) (hB.kept hk) hl hi
  have H2 : Hid (∀ u, Kept ((w.alloc (.cells #[.slice ca cs.length ac, .slice ta ts.length at'] 38)).alloc (.cells #[.slice cb cs.length bc, .slice tb ts.length bt] 38)) u → Calls Tryz.prog 44 #[.slice ta ts.length at', .slice tb ts.length bt] u fun e w' => e = .returned (.bool true) ∧ Kept u w') := fun u hu => eqStrS_ok u ta tb at' bt ts ((hC.kept hk).kept hu) ((hD.kept hk).kept hu) ht
  clear hA hB hC hD hi
  go_enter Tryz.func17, Tryz.ntmps17
  go_wp2_with (first
    | (have _tk := hk1; go_at_call 44; refine (H2.out _ hk1).mono ?_; rintro e w2 ⟨rfl, hk2⟩)
    | (go_at_call 57; refine h1.mono ?_; rintro e w1 ⟨rfl, hk1⟩; have m := bx.kept hk1; have m0 := m.cell 0; have m1 := m.cell 1; have n := by'.kept hk1; have n0 := n.cell 0; have n1 := n.cell 1))
  go_ret
  exact ⟨rfl, (hk.trans hk1).trans hk2⟩
end Go.Proofs.YtgempjjnfpmndaaGreatDoor
namespace Go.Proofs.YtgempjjnfpmndaaGreatDoor
open Go.ChangeShapes Go.WideShapes Go.ChangeAt Go.RowKit
set_option linter.unusedSimpArgs false
set_option linter.unusedVariables false
theorem Kept.set3 {w W : World} (k : Kept w W) {g i : Nat} (hg : w.heap.size ≤ g) (a b c : Value) : Kept w (((W.setCell ⟨g, i, none⟩ a).setCell ⟨g, i + 1, none⟩ b).setCell ⟨g, i + 2, none⟩ c) := ((k.set hg a).set hg b).set hg c
theorem Cells.at3 {W : World} {B i : Nat} {t : TypeId} {cs : Array Value} (h : Cells W B t cs) (hi : i < cs.size) : W.cell? ⟨B, i, none⟩ = some cs[i] := by
  rw [h.cell, Array.getElem?_eq_getElem hi]
theorem set3_get {cs : Array Value} {n j k : Nat} {a b c : Value} (h : k * 3 + 3 ≤ cs.size) (hj : j ≠ k) (i : Nat) (hi : i < 3) : (((cs.setIfInBounds (k * 3) a).setIfInBounds (k * 3 + 1) b).setIfInBounds (k * 3 + 2) c)[j * 3 + i]? = cs[j * 3 + i]? := by
  rw [Array.getElem?_setIfInBounds_ne (by omega), Array.getElem?_setIfInBounds_ne (by omega), Array.getElem?_setIfInBounds_ne (by omega)]
theorem set3_at {cs : Array Value} {k : Nat} {a b c : Value} (h : k * 3 + 3 ≤ cs.size) : (((cs.setIfInBounds (k * 3) a).setIfInBounds (k * 3 + 1) b).setIfInBounds (k * 3 + 2) c)[k * 3]? = some a ∧ (((cs.setIfInBounds (k * 3) a).setIfInBounds (k * 3 + 1) b).setIfInBounds (k * 3 + 2) c)[k * 3 + 1]? = some b ∧ (((cs.setIfInBounds (k * 3) a).setIfInBounds (k * 3 + 1) b).setIfInBounds (k * 3 + 2) c)[k * 3 + 2]? = some c := by
  refine ⟨?_, ?_, ?_⟩
  · rw [Array.getElem?_setIfInBounds_ne (by omega), Array.getElem?_setIfInBounds_ne (by omega), Array.getElem?_setIfInBounds_self_of_lt (by omega)]
  · rw [Array.getElem?_setIfInBounds_ne (by omega), Array.getElem?_setIfInBounds_self_of_lt (by simp; omega)]
  · rw [Array.getElem?_setIfInBounds_self_of_lt (by simp; omega)]
theorem infoStp : (Tryz.prog.info? 131).map (fun i => (i.zero, i.size, i.bytes)) = some (some (.agg #[.int .i64 0, .int .i64 0, .int .i64 0]), 3, 24) := by kernel_rfl
/-- The cells of a row whose first k steps are told. -/
def RowS (W : World) (g : Nat) (ss : List Stp) (k : Nat) : Prop := ∃ cs, Cells W g 131 cs ∧ cs.size = ss.length * 3 ∧ ∀ (j : Nat) (s : Stp), j < k → ss[j]? = some s → cs[j * 3]? = some (.int .i64 s.1) ∧ cs[j * 3 + 1]? = some (.int .i64 s.2.1) ∧ cs[j * 3 + 2]? = some (.int .i64 s.2.2)
theorem RowS.on {W W' : World} {g : Nat} {ss : List Stp} {k : Nat} (h : RowS W g ss k) (hk : Kept W W') : RowS W' g ss k := by
  obtain ⟨cs, h1, h2, h3⟩ := h
  exact ⟨cs, h1.kept hk, h2, h3⟩
theorem RowS.next {W : World} {g : Nat} {ss : List Stp} {k : Nat} {x : Stp} (h : RowS W g ss k) (hx : ss[k]? = some x) :
    RowS (((W.setCell ⟨g, k * 3, none⟩ (.int .i64 x.1)).setCell ⟨g, k * 3 + 1, none⟩ (.int .i64 x.2.1)).setCell ⟨g, k * 3 + 2, none⟩ (.int .i64 x.2.2)) g ss (k + 1) := by
  obtain ⟨cs, h1, h2, h3⟩ := h
  have hlt : k < ss.length := (List.getElem?_eq_some_iff.1 hx).1
  have hz : k * 3 + 3 ≤ cs.size := by omega
  refine ⟨_, ((h1.set (k * 3) _).set (k * 3 + 1) _).set (k * 3 + 2) _, by simp [h2], fun j s hj hs => ?_⟩
  by_cases hjk : j = k
  · subst hjk
    rw [hx] at hs
    injection hs with hs
    subst hs
    exact set3_at hz
  · obtain ⟨e0, e1, e2⟩ := h3 j s (by omega) hs
    have f0 := set3_get (n := 0) (a := .int .i64 x.1) (b := .int .i64 x.2.1) (c := .int .i64 x.2.2) hz hjk 0 (by omega)
    have f1 := set3_get (n := 0) (a := .int .i64 x.1) (b := .int .i64 x.2.1) (c := .int .i64 x.2.2) hz hjk 1 (by omega)
    have f2 := set3_get (n := 0) (a := .int .i64 x.1) (b := .int .i64 x.2.1) (c := .int .i64 x.2.2) hz hjk 2 (by omega)
    exact ⟨f0.trans e0, f1.trans e1, f2.trans e2⟩
theorem RowS.done {W : World} {g : Nat} {ss : List Stp} (h : RowS W g ss ss.length) : StpsA W (some ⟨g, 0, none⟩) ss := by
  obtain ⟨cs, h1, h2, h3⟩ := h
  intro j s hs
  obtain ⟨e0, e1, e2⟩ := h3 j s (List.getElem?_eq_some_iff.1 hs).1 hs
  refine ⟨g, 0, rfl, ?_, ?_, ?_⟩
  · rw [Nat.zero_add, h1.cell]; exact e0
  · rw [Nat.zero_add, h1.cell]; exact e1
  · rw [Nat.zero_add, h1.cell]; exact e2
set_option maxHeartbeats 8000000 in
set_option maxRecDepth 100000 in
theorem toStepS_ok (w : World) (ao : Option Addr) (cap : Nat) (ss : List Stp) (hA : StpsA w ao ss) (hl : ss.length ≤ 1048576) :
    Calls Tryz.prog 142 #[.slice ao ss.length cap] w fun e w' => e = .returned (.slice (some ⟨w.heap.size, 0, none⟩) ss.length ss.length) ∧ StpsA w' (some ⟨w.heap.size, 0, none⟩) ss ∧ Kept w w' := by
  obtain ⟨i0, hi, hz0, hz1, hz2⟩ := info_parts infoStp
  have HA : Hid _ := hA
  clear hA
  go_enter Tryz.func142, Tryz.ntmps142
  go_wp2_with (at_make; refine wpList_make_full _ rfl _ _ 89 rfl w.heap.size 131 i0 (.agg #[.int .i64 0, .int .i64 0, .int .i64 0]) 3 Tryz.underlying89 hi hz0 hz1 .i64 .i64 _ _ ss.length rfl rfl rfl rfl (by rw [hz2]; omega) (by unfold maxLen; omega) (Nat.le_refl _) ?_; intro w1 hown hgrow)
  have hR : RowS w1 w.heap.size ss 0 := by
    obtain ⟨_, ⟨e, _⟩ | ⟨g', cap', cur, e, hb, hg, h1, h2, h3, h4⟩⟩ := hown
    · cases e
    · simp at e
      obtain ⟨rfl, rfl⟩ := e
      exact ⟨cur, hg, h3, fun j t hj => by omega⟩
  have hK : Kept w w1 := (Below.refl _ w).grown hgrow (Nat.le_refl _) (by simp)
  have HR0 : Hid _ := hR
  have HK0 : Hid (Kept w w1) := hK
  clear hown hgrow hR hK
  go_loopw [4] (fun iv wr => ∃ (k : Nat), iv = .int .i64 k ∧ k ≤ ss.length ∧ Hid (RowS wr w.heap.size ss k) ∧ Hid (Kept w wr)) (fun i _ => ss.length - (intOf i).toNat)
  case atStart => exact ⟨0, rfl, Nat.zero_le _, HR0.out, HK0.out⟩
  case round =>
    obtain ⟨k, rfl, hk, hR, hK⟩ := hrel
    clear HR0 HK0
    by_cases hlt : k < ss.length
    · obtain ⟨x, hx⟩ : ∃ x, ss[k]? = some x := ⟨ss[k], List.getElem?_eq_getElem hlt⟩
      have q1 : (k : Int) < (ss.length : Int) := by omega
      obtain ⟨b, off, rfl, g0, g1, g2⟩ := (StpsA.kept HA.out hK.out) k x hx
      have HX : Hid (ss[k]? = some x) := hx
      obtain ⟨o, a, c⟩ := x
      have hC := toStep_ok wr o a c
      clear hx
      go_wp2_with (go_at_call 178; refine hC.mono ?_; rintro e wx ⟨rfl, hkx⟩; obtain ⟨cs, hcs, hcz, _⟩ := id (RowS.on hR.out hkx); have z0 := hcs.at3 (i := k * 3) (by omega); have z1 := hcs.at3 (i := k * 3 + 1) (by omega); have z2 := hcs.at3 (i := k * 3 + 2) (by omega); have y0 := hcs.frozen (k * 3); have y1 := hcs.frozen (k * 3 + 1); have y2 := hcs.frozen (k * 3 + 2))
      have hN := RowS.next (RowS.on hR.out hkx) HX.out
      go_roundw
      case rel => exact ⟨k + 1, by go_num, by omega, hN, (hK.out.trans hkx).set3 (by simp) _ _ _⟩
      case measure => simp [intOf]; omega
    · have q1 : ¬ (k : Int) < (ss.length : Int) := by omega
      have HR : Hid (StpsA wr (some ⟨w.heap.size, 0, none⟩) ss) := RowS.done (by have := hR.out; rwa [show k = ss.length by omega] at this)
      go_wp2_with fail
      go_ret
      exact ⟨rfl, HR.out, hK.out⟩
set_option maxHeartbeats 8000000 in
set_option maxRecDepth 100000 in
theorem toCode_ok (w : World) (x y : Int) (ao : Option Addr) (cap : Nat) (ss : List Stp) (hA : StpsA w ao ss) (hl : ss.length ≤ 1048576) :
    Calls Tryz.prog 99 #[.agg #[.int .i64 x, .int .i64 y, .slice ao ss.length cap]] w fun e w' => ∃ g, e = .returned (.agg #[.int .i64 x, .int .i64 y, .slice (some ⟨g, 0, none⟩) ss.length ss.length]) ∧ w.heap.size ≤ g ∧ StpsA w' (some ⟨g, 0, none⟩) ss ∧ Kept w w' := by
  have k3 : Kept w (((w.alloc (.cells #[.int .i64 x, .int .i64 y, .slice ao ss.length cap] 129)).alloc (.cells #[.int .i64 0, .int .i64 0, .slice none 0 0] 91)).alloc (.cells #[.int .i64 x, .int .i64 y, .slice none 0 0] 91)) := ((Kept.alloc (Below.refl _ _) _).alloc _).alloc _
  have y1 := (Cells.new (w.alloc (.cells #[.int .i64 x, .int .i64 y, .slice ao ss.length cap] 129)) 91 #[.int .i64 0, .int .i64 0, .slice none 0 0]).alloc (.cells #[.int .i64 x, .int .i64 y, .slice none 0 0] 91)
  have y2 := Cells.new ((w.alloc (.cells #[.int .i64 x, .int .i64 y, .slice ao ss.length cap] 129)).alloc (.cells #[.int .i64 0, .int .i64 0, .slice none 0 0] 91)) 91 #[.int .i64 x, .int .i64 y, .slice none 0 0]
  have hs3 : (((w.alloc (.cells #[.int .i64 x, .int .i64 y, .slice ao ss.length cap] 129)).alloc (.cells #[.int .i64 0, .int .i64 0, .slice none 0 0] 91)).alloc (.cells #[.int .i64 x, .int .i64 y, .slice none 0 0] 91)).heap.size = w.heap.size + 3 := by simp
  simp only [World.size_alloc] at y1 y2
  have hC := toStepS_ok _ ao cap ss (hA.kept k3) hl
  rw [hs3] at hC
  clear hA hl
  go_enter Tryz.func99, Tryz.ntmps99
  go_wp2_with fail
  refine hC.mono ?_
  rintro e w1 ⟨rfl, hN, hk1⟩
  have x1 := y1.kept hk1
  have x2 := y2.kept hk1
  have c0 := x2.cell 0; have c1 := x2.cell 1; have c2 := x2.cell 2; have f0 := x2.frozen 0; have f1 := x2.frozen 1; have f2 := x2.frozen 2; have l2 := x2.lt
  have d0 := x1.cell 0; have d1 := x1.cell 1; have d2 := x1.cell 2; have g0 := x1.frozen 0; have g1 := x1.frozen 1; have g2 := x1.frozen 2; have l1 := x1.lt
  have HN : Hid _ := hN
  clear hC y1 y2 hN
  go_wp2_with fail
  have z := (((x1.other (p := ⟨w.heap.size + 1 + 1, 2, none⟩) (by simp) (.slice (some ⟨w.heap.size + 3, 0, none⟩) ss.length ss.length)).set 0 (.int .i64 x)).set 1 (.int .i64 y)).set 2 (.slice (some ⟨w.heap.size + 3, 0, none⟩) ss.length ss.length)
  have z0 := z.cell 0
  have z1 := z.cell 1
  have z2 := z.cell 2
  refine bodyPost_ret (v := .agg #[.int .i64 x, .int .i64 y, .slice (some ⟨w.heap.size + 3, 0, none⟩) ss.length ss.length]) (by simp [results, Tryz.results99, go_sem, z0, z1, z2]) rfl ⟨_, rfl, by omega, StpsA.other (StpsA.other (StpsA.other (StpsA.other HN.out (by omega)) (by omega)) (by omega)) (by omega), ((((k3.trans hk1).set (by simp; omega) _).set (by simp) _).set (by simp) _).set (by simp) _⟩
theorem infoCod : (Tryz.prog.info? 91).map (fun i => (i.zero, i.size, i.bytes)) = some (some (.agg #[.int .i64 0, .int .i64 0, .slice none 0 0]), 3, 40) := by kernel_rfl
/-- The cells of a row whose first k codes are told. -/
def RowC (W : World) (g : Nat) (cs : List Cod) (k : Nat) : Prop := ∃ vs, Cells W g 91 vs ∧ vs.size = cs.length * 3 ∧ ∀ (j : Nat) (c : Cod), j < k → cs[j]? = some c → ∃ x, g < x ∧ vs[j * 3]? = some (.int .i64 c.n) ∧ vs[j * 3 + 1]? = some (.int .i64 c.v) ∧ vs[j * 3 + 2]? = some (.slice (some ⟨x, 0, none⟩) c.ss.length c.ss.length) ∧ StpsA W (some ⟨x, 0, none⟩) c.ss
theorem RowC.on {W W' : World} {g : Nat} {cs : List Cod} {k : Nat} (h : RowC W g cs k) (hk : Kept W W') : RowC W' g cs k := by
  obtain ⟨vs, h1, h2, h3⟩ := h
  refine ⟨vs, h1.kept hk, h2, fun j c hj hc => ?_⟩
  obtain ⟨x, hx, e0, e1, e2, hs⟩ := h3 j c hj hc
  exact ⟨x, hx, e0, e1, e2, hs.kept hk⟩
theorem RowC.next {W : World} {g y : Nat} {cs : List Cod} {k : Nat} {x : Cod} (h : RowC W g cs k) (hx : cs[k]? = some x) (hy : g < y) (hs : StpsA W (some ⟨y, 0, none⟩) x.ss) :
    RowC (((W.setCell ⟨g, k * 3, none⟩ (.int .i64 x.n)).setCell ⟨g, k * 3 + 1, none⟩ (.int .i64 x.v)).setCell ⟨g, k * 3 + 2, none⟩ (.slice (some ⟨y, 0, none⟩) x.ss.length x.ss.length)) g cs (k + 1) := by
  obtain ⟨vs, h1, h2, h3⟩ := h
  have hlt : k < cs.length := (List.getElem?_eq_some_iff.1 hx).1
  have hz : k * 3 + 3 ≤ vs.size := by omega
  refine ⟨_, ((h1.set (k * 3) _).set (k * 3 + 1) _).set (k * 3 + 2) _, by simp [h2], fun j c hj hc => ?_⟩
  by_cases hjk : j = k
  · subst hjk
    rw [hx] at hc
    injection hc with hc
    subst hc
    obtain ⟨e0, e1, e2⟩ := set3_at (a := .int .i64 x.n) (b := .int .i64 x.v) (c := .slice (some ⟨y, 0, none⟩) x.ss.length x.ss.length) hz
    exact ⟨y, hy, e0, e1, e2, ((hs.other (by omega)).other (by omega)).other (by omega)⟩
  · obtain ⟨z, hz', e0, e1, e2, hss⟩ := h3 j c (by omega) hc
    have f0 := set3_get (n := 0) (a := .int .i64 x.n) (b := .int .i64 x.v) (c := .slice (some ⟨y, 0, none⟩) x.ss.length x.ss.length) hz hjk 0 (by omega)
    have f1 := set3_get (n := 0) (a := .int .i64 x.n) (b := .int .i64 x.v) (c := .slice (some ⟨y, 0, none⟩) x.ss.length x.ss.length) hz hjk 1 (by omega)
    have f2 := set3_get (n := 0) (a := .int .i64 x.n) (b := .int .i64 x.v) (c := .slice (some ⟨y, 0, none⟩) x.ss.length x.ss.length) hz hjk 2 (by omega)
    exact ⟨z, hz', f0.trans e0, f1.trans e1, f2.trans e2, ((hss.other (by omega)).other (by omega)).other (by omega)⟩
/-- Codes at g, their steps in blocks behind it. -/
def CodsO (W : World) (g : Nat) (cs : List Cod) : Prop := ∀ (j : Nat) (c : Cod), cs[j]? = some c → ∃ x, g < x ∧ W.cell? ⟨g, j * 3, none⟩ = some (.int .i64 c.n) ∧ W.cell? ⟨g, j * 3 + 1, none⟩ = some (.int .i64 c.v) ∧ W.cell? ⟨g, j * 3 + 2, none⟩ = some (.slice (some ⟨x, 0, none⟩) c.ss.length c.ss.length) ∧ StpsA W (some ⟨x, 0, none⟩) c.ss
theorem RowC.done {W : World} {g : Nat} {cs : List Cod} (h : RowC W g cs cs.length) : CodsO W g cs := by
  obtain ⟨vs, h1, h2, h3⟩ := h
  intro j c hc
  obtain ⟨x, hx, e0, e1, e2, hs⟩ := h3 j c (List.getElem?_eq_some_iff.1 hc).1 hc
  exact ⟨x, hx, by rw [h1.cell]; exact e0, by rw [h1.cell]; exact e1, by rw [h1.cell]; exact e2, hs⟩
theorem CodsO.all {W : World} {g : Nat} {cs : List Cod} (h : CodsO W g cs) : CodsA W (some ⟨g, 0, none⟩) cs := by
  intro j c hc
  obtain ⟨x, hx, e0, e1, e2, hs⟩ := h j c hc
  exact ⟨g, 0, _, _, rfl, by rw [Nat.zero_add]; exact e0, by rw [Nat.zero_add]; exact e1, by rw [Nat.zero_add]; exact e2, hs⟩
theorem CodsO.kept {W W' : World} {g : Nat} {cs : List Cod} (h : CodsO W g cs) (hk : Kept W W') : CodsO W' g cs := by
  intro j c hc
  obtain ⟨x, hx, e0, e1, e2, hs⟩ := h j c hc
  exact ⟨x, hx, cellK hk e0, cellK hk e1, cellK hk e2, hs.kept hk⟩
theorem CodsO.other {W : World} {g i k : Nat} {cs : List Cod} {v : Value} (h : CodsO W g cs) (hg : i < g) : CodsO (W.setCell ⟨i, k, none⟩ v) g cs := by
  intro j c hc
  obtain ⟨x, hx, e0, e1, e2, hs⟩ := h j c hc
  exact ⟨x, hx, (cell_other (by omega)).trans e0, (cell_other (by omega)).trans e1, (cell_other (by omega)).trans e2, hs.other (by omega)⟩
set_option maxHeartbeats 8000000 in
set_option maxRecDepth 100000 in
theorem toCodeS_ok (w : World) (ao : Option Addr) (cap : Nat) (cs : List Cod) (hA : CodsA w ao cs) (hl : cs.length ≤ 1048576) (hI : ∀ c ∈ cs, c.ss.length ≤ 1048576) :
    Calls Tryz.prog 52 #[.slice ao cs.length cap] w fun e w' => e = .returned (.slice (some ⟨w.heap.size, 0, none⟩) cs.length cs.length) ∧ CodsO w' w.heap.size cs ∧ Kept w w' := by
  obtain ⟨i0, hi, hz0, hz1, hz2⟩ := info_parts infoCod
  have HA : Hid _ := hA
  have HI : Hid _ := hI
  clear hA hI
  go_enter Tryz.func52, Tryz.ntmps52
  go_wp2_with (at_make; refine wpList_make_full _ rfl _ _ 36 rfl w.heap.size 91 i0 (.agg #[.int .i64 0, .int .i64 0, .slice none 0 0]) 3 Tryz.underlying36 hi hz0 hz1 .i64 .i64 _ _ cs.length rfl rfl rfl rfl (by rw [hz2]; omega) (by unfold maxLen; omega) (Nat.le_refl _) ?_; intro w1 hown hgrow)
  have hR : RowC w1 w.heap.size cs 0 := by
    obtain ⟨_, ⟨e, _⟩ | ⟨g', cap', cur, e, hb, hg, h1, h2, h3, h4⟩⟩ := hown
    · cases e
    · simp at e
      obtain ⟨rfl, rfl⟩ := e
      exact ⟨cur, hg, h3, fun j t hj => by omega⟩
  have hK : Kept w w1 := (Below.refl _ w).grown hgrow (Nat.le_refl _) (by simp)
  have HR0 : Hid _ := hR
  have HK0 : Hid (Kept w w1) := hK
  clear hown hgrow hR hK
  go_loopw [4] (fun iv wr => ∃ (k : Nat), iv = .int .i64 k ∧ k ≤ cs.length ∧ Hid (RowC wr w.heap.size cs k) ∧ Hid (Kept w wr)) (fun i _ => cs.length - (intOf i).toNat)
  case atStart => exact ⟨0, rfl, Nat.zero_le _, HR0.out, HK0.out⟩
  case round =>
    obtain ⟨k, rfl, hk, hR, hK⟩ := hrel
    clear HR0 HK0
    by_cases hlt : k < cs.length
    · obtain ⟨x, hx⟩ : ∃ x, cs[k]? = some x := ⟨cs[k], List.getElem?_eq_getElem hlt⟩
      have q1 : (k : Int) < (cs.length : Int) := by omega
      obtain ⟨b, off, xo, xc, rfl, g0, g1, g2, hX⟩ := (CodsA.kept HA.out hK.out) k x hx
      have HX : Hid (cs[k]? = some x) := hx
      have hC := toCode_ok wr x.n x.v xo xc x.ss hX (HI.out x (List.mem_of_getElem? hx))
      clear hx hX
      go_wp2_with (go_at_call 99; refine hC.mono ?_; rintro e wx ⟨y, rfl, hy, hvx, hkx⟩; obtain ⟨vs, hcs, hcz, _⟩ := id (RowC.on hR.out hkx); have z0 := hcs.at3 (i := k * 3) (by omega); have z1 := hcs.at3 (i := k * 3 + 1) (by omega); have z2 := hcs.at3 (i := k * 3 + 2) (by omega); have y0 := hcs.frozen (k * 3); have y1 := hcs.frozen (k * 3 + 1); have y2 := hcs.frozen (k * 3 + 2))
      have hlt2 : w.heap.size < wr.heap.size := by obtain ⟨_, hh, _⟩ := hR.out; exact hh.lt
      have hN := RowC.next (RowC.on hR.out hkx) HX.out (by omega) hvx
      go_roundw
      case rel => exact ⟨k + 1, by go_num, by omega, hN, (hK.out.trans hkx).set3 (by simp) _ _ _⟩
      case measure => simp [intOf]; omega
    · have q1 : ¬ (k : Int) < (cs.length : Int) := by omega
      have HR : Hid (CodsO wr w.heap.size cs) := RowC.done (by have := hR.out; rwa [show k = cs.length by omega] at this)
      go_wp2_with fail
      go_ret
      exact ⟨rfl, HR.out, hK.out⟩
end Go.Proofs.YtgempjjnfpmndaaGreatDoor
namespace Go.Proofs.YtgempjjnfpmndaaGreatDoor
open Go.ChangeShapes Go.WideShapes Go.ChangeAt Go.RowKit
set_option linter.unusedSimpArgs false
set_option linter.unusedVariables false
set_option maxHeartbeats 8000000 in
set_option maxRecDepth 100000 in
theorem toUnit_ok (w : World) (ca ta : Option Addr) (cc tc : Nat) (cs : List Cod) (ts : List ByteArray) (hA : CodsA w ca cs) (hB : StA w ta ts) (hl : cs.length ≤ 1048576) (hI : ∀ c ∈ cs, c.ss.length ≤ 1048576) (ht : ts.length ≤ 1048576) :
    Calls Tryz.prog 15 #[.agg #[.slice ca cs.length cc, .slice ta ts.length tc]] w fun e w' => ∃ g h, e = .returned (.agg #[.slice (some ⟨g, 0, none⟩) cs.length cs.length, .slice (some ⟨h, 0, none⟩) ts.length ts.length]) ∧ CodsA w' (some ⟨g, 0, none⟩) cs ∧ StA w' (some ⟨h, 0, none⟩) ts ∧ Kept w w' := by
  have k3 : Kept w (((w.alloc (.cells #[.slice ca cs.length cc, .slice ta ts.length tc] 25)).alloc (.cells #[.slice none 0 0, .slice none 0 0] 38)).alloc (.cells #[.slice none 0 0, .slice none 0 0] 38)) := ((Kept.alloc (Below.refl _ _) _).alloc _).alloc _
  have y0 := ((Cells.new w 25 #[.slice ca cs.length cc, .slice ta ts.length tc]).alloc (.cells #[.slice none 0 0, .slice none 0 0] 38)).alloc (.cells #[.slice none 0 0, .slice none 0 0] 38)
  have y1 := (Cells.new (w.alloc (.cells #[.slice ca cs.length cc, .slice ta ts.length tc] 25)) 38 #[.slice none 0 0, .slice none 0 0]).alloc (.cells #[.slice none 0 0, .slice none 0 0] 38)
  have y2 := Cells.new ((w.alloc (.cells #[.slice ca cs.length cc, .slice ta ts.length tc] 25)).alloc (.cells #[.slice none 0 0, .slice none 0 0] 38)) 38 #[.slice none 0 0, .slice none 0 0]
  have hs3 : (((w.alloc (.cells #[.slice ca cs.length cc, .slice ta ts.length tc] 25)).alloc (.cells #[.slice none 0 0, .slice none 0 0] 38)).alloc (.cells #[.slice none 0 0, .slice none 0 0] 38)).heap.size = w.heap.size + 3 := by simp
  simp only [World.size_alloc] at y0 y1 y2
  have hC := toCodeS_ok _ ca cc cs (hA.kept k3) hl hI
  rw [hs3] at hC
  have HB : Hid (StA w ta ts) := hB
  have HT : Hid (ts.length ≤ 1048576) := ht
  have HK3 : Hid _ := k3
  clear hA hl hI hB ht
  go_enter Tryz.func15, Tryz.ntmps15
  go_wp2_with fail
  refine hC.mono ?_
  rintro e w1 ⟨rfl, hN, hk1⟩
  have x0 := y0.kept hk1
  have x1 := y1.kept hk1
  have x2 := y2.kept hk1
  have c0 := x2.cell 0; have f0 := x2.frozen 0; have l2 := x2.lt
  have hsz1 : w.heap.size + 3 ≤ w1.heap.size := by have := hk1.size; rw [hs3] at this; exact this
  have v0 := x0.other (p := ⟨w.heap.size + 1 + 1, 0, none⟩) (by simp; omega) (.slice (some ⟨w.heap.size + 3, 0, none⟩) cs.length cs.length)
  have v1 := x1.other (p := ⟨w.heap.size + 1 + 1, 0, none⟩) (by simp) (.slice (some ⟨w.heap.size + 3, 0, none⟩) cs.length cs.length)
  have v2 := x2.set 0 (.slice (some ⟨w.heap.size + 3, 0, none⟩) cs.length cs.length)
  have hN1 := hN.other (i := w.heap.size + 1 + 1) (k := 0) (v := .slice (some ⟨w.heap.size + 3, 0, none⟩) cs.length cs.length) (by omega)
  have kW : Kept w (w1.setCell ⟨w.heap.size + 1 + 1, 0, none⟩ (.slice (some ⟨w.heap.size + 3, 0, none⟩) cs.length cs.length)) := (Kept.trans HK3.out hk1).set (by simp; omega) _
  have hszW : (w1.setCell ⟨w.heap.size + 1 + 1, 0, none⟩ (.slice (some ⟨w.heap.size + 3, 0, none⟩) cs.length cs.length)).heap.size = w1.heap.size := by simp
  have HsW : Hid (w.heap.size + 3 ≤ w1.heap.size) := hsz1
  have a0 := v0.cell 0; have a1 := v0.cell 1
  have HN1 : Hid _ := hN1
  have hD := toStringS_ok (w1.setCell ⟨w.heap.size + 1 + 1, 0, none⟩ (.slice (some ⟨w.heap.size + 3, 0, none⟩) cs.length cs.length)) ta tc ts (StA.kept HB.out kW) HT.out
  rw [hszW] at hD
  clear hC y0 y1 y2 hN x0 x1 hszW hN1 hsz1
  go_wp2_with (go_at_call 34; refine hD.mono ?_; rintro e w2 ⟨rfl, hS, hk2⟩; have m2 := v2.kept hk2; have m1 := v1.kept hk2; have e0 := m2.cell 0; have e1 := m2.cell 1; have r0 := m2.frozen 0; have r1 := m2.frozen 1; have e2 := m1.cell 0; have e3 := m1.cell 1; have r2 := m1.frozen 0; have r3 := m1.frozen 1)
  have z := (((m1.other (p := ⟨w.heap.size + 1 + 1, 1, none⟩) (by simp) (.slice (some ⟨w1.heap.size, 0, none⟩) ts.length ts.length)).set 0 (.slice (some ⟨w.heap.size + 3, 0, none⟩) cs.length cs.length))).set 1 (.slice (some ⟨w1.heap.size, 0, none⟩) ts.length ts.length)
  have z0 := z.cell 0
  have z1 := z.cell 1
  have hQ := CodsO.kept HN1.out hk2
  have hs1 := HsW.out
  have hR := ((hQ.other (i := w.heap.size + 1 + 1) (k := 1) (v := .slice (some ⟨w1.heap.size, 0, none⟩) ts.length ts.length) (by omega)).other (i := w.heap.size + 1) (k := 0) (v := .slice (some ⟨w.heap.size + 3, 0, none⟩) cs.length cs.length) (by omega)).other (i := w.heap.size + 1) (k := 1) (v := .slice (some ⟨w1.heap.size, 0, none⟩) ts.length ts.length) (by omega)
  refine bodyPost_ret (v := .agg #[.slice (some ⟨w.heap.size + 3, 0, none⟩) cs.length cs.length, .slice (some ⟨w1.heap.size, 0, none⟩) ts.length ts.length]) (by simp [results, Tryz.results15, go_sem, z0, z1]) rfl ⟨_, _, rfl, hR.all, StA.other (StA.other (StA.other hS (by omega)) (by omega)) (by omega), (((Kept.trans kW hk2).set (by simp; omega) _).set (by simp) _).set (by simp) _⟩
theorem cellsUnitL : Tryz.prog.cellsOf 25 = 2 := by kernel_rfl
theorem cellsCodeL : Tryz.prog.cellsOf 129 = 3 := by kernel_rfl
theorem cellsCodesL : Tryz.prog.cellsOf 22 = 1 := by kernel_rfl
theorem cellsStepsL : Tryz.prog.cellsOf 127 = 1 := by kernel_rfl
set_option maxRecDepth 100000 in
theorem steps_of {H : Type} {enc : TypeId × Value → H} {W : World} {fuel : Nat} {c : Value} {x : DataW H × List MemPlace} (hf : DataW.trod enc Tryz.prog W 0 (fun _ => true) true fuel 127 [c] = some x) :
    ∃ ao cap ss, c = .slice ao (List.length ss) cap ∧ ss.length ≤ maxLen ∧ StpsA W ao ss := by
  rcases DataW.trod_slice Tryz.underlying127 hf with ⟨e3, _⟩ | ⟨a, len, cap, elems, rest, n2, hn2, e3, _, _, hlc, hcm, hel, hcell, _, _⟩
  · simp at e3
    subst e3
    exact ⟨none, 0, [], rfl, by simp, fun j t ht => by simp at ht⟩
  · simp at e3
    subst e3
    have key : ∀ i, i < len → ∃ t : Stp, W.cell? (a.add (i * 3)) = some (.int .i64 t.1) ∧ W.cell? (a.add (i * 3 + 1)) = some (.int .i64 t.2.1) ∧ W.cell? (a.add (i * 3 + 2)) = some (.int .i64 t.2.2) := fun i hi => by
      have h4 := hcell i hi
      rw [List.getElem?_eq_getElem (by omega)] at h4
      obtain ⟨cs', hc1, hc2⟩ := Option.bind_eq_some_iff.1 h4
      obtain ⟨o, p, q, rfl, _, _, _⟩ := step_of hc2
      rw [cellsStepL] at hc1
      obtain ⟨_, _, hc⟩ := World.cells?_some hc1
      have g0 := hc 0 (by omega)
      have g1 := hc 1 (by omega)
      have g2 := hc 2 (by omega)
      simp only [Go.Deep.add_add] at g0 g1 g2
      exact ⟨(o, p, q), by simpa using g0, by simpa using g1, by simpa using g2⟩
    obtain ⟨f, hf2⟩ := Go.Deep.choose_lt key
    obtain ⟨b, off, spot⟩ := a
    refine ⟨some ⟨b, off, spot⟩, cap, (List.range len).map f, by simp, by simp; omega, fun k t e => ?_⟩
    have hk : k < len := by
      have := (List.getElem?_eq_some_iff.1 e).1
      simpa using this
    have ht : t = f k := by
      rw [List.getElem?_map, List.getElem?_range hk] at e
      simpa using e.symm
    subst ht
    obtain ⟨g0, g1, g2⟩ := hf2 k hk
    have hspot : spot = none := by simpa [Addr.add] using World.cell?_spot (hf2 0 (by omega)).1
    subst hspot
    refine ⟨b, off, rfl, ?_, ?_, ?_⟩
    · rw [← g0]; unfold Addr.add; split <;> simp_all
    · rw [← g1]; unfold Addr.add; split <;> simp_all [Nat.add_assoc]
    · rw [← g2]; unfold Addr.add; split <;> simp_all [Nat.add_assoc]
set_option maxRecDepth 100000 in
theorem code_of {H : Type} {enc : TypeId × Value → H} {W : World} {fuel : Nat} {cs : List Value} {x : DataW H × List MemPlace} (hf : DataW.trod enc Tryz.prog W 0 (fun _ => true) true fuel 129 cs = some x) :
    ∃ n v ao cap ss, cs = [.int .i64 n, .int .i64 v, .slice ao (List.length ss) cap] ∧ ss.length ≤ maxLen ∧ StpsA W ao ss := by
  obtain ⟨xs, n, _, _, hl, hlen, hff⟩ := DataW.trod_struct Tryz.underlying129 hf
  obtain ⟨y0, y1, y2, rfl⟩ : ∃ y0 y1 y2, xs = [y0, y1, y2] := by
    match xs, hlen with
    | [y0, y1, y2], _ => exact ⟨y0, y1, y2, rfl⟩
  rw [cellsCodeL] at hl
  obtain ⟨c0, c1, c2, rfl⟩ : ∃ c0 c1 c2, cs = [c0, c1, c2] := by
    match cs, hl with
    | [c0, c1, c2], _ => exact ⟨c0, c1, c2, rfl⟩
  have h0 : DataW.trod enc Tryz.prog W 0 (fun _ => true) true n 3 [c0] = some y0 := by simpa [Value.cells, cellsIntS] using hff 0 _ rfl
  have h1 : DataW.trod enc Tryz.prog W 0 (fun _ => true) true n 3 [c1] = some y1 := by simpa [Value.cells, cellsIntS] using hff 1 _ rfl
  have h2 : DataW.trod enc Tryz.prog W 0 (fun _ => true) true n 127 [c2] = some y2 := by simpa [Value.cells, cellsStepsL] using hff 2 _ rfl
  obtain ⟨o, e0, _, w0⟩ := DataW.trod_int Tryz.underlying3 h0
  obtain ⟨a, e1, _, w1⟩ := DataW.trod_int Tryz.underlying3 h1
  obtain ⟨ao, cap, ss, rfl, h3, h4⟩ := steps_of h2
  simp at e0 e1
  subst e0 e1
  exact ⟨o, a, ao, cap, ss, rfl, h3, h4⟩
set_option maxRecDepth 100000 in
theorem codes_of {H : Type} {enc : TypeId × Value → H} {W : World} {fuel : Nat} {c : Value} {x : DataW H × List MemPlace} (hf : DataW.trod enc Tryz.prog W 0 (fun _ => true) true fuel 22 [c] = some x) :
    ∃ ao cap cs, c = .slice ao (List.length cs) cap ∧ FitC cs ∧ CodsA W ao cs := by
  rcases DataW.trod_slice Tryz.underlying22 hf with ⟨e3, _⟩ | ⟨a, len, cap, elems, rest, n2, hn2, e3, _, _, hlc, hcm, hel, hcell, _, _⟩
  · simp at e3
    subst e3
    exact ⟨none, 0, [], rfl, ⟨by simp, by simp⟩, fun j t ht => by simp at ht⟩
  · simp at e3
    subst e3
    have key : ∀ i, i < len → ∃ t : Cod, t.ss.length ≤ maxLen ∧ ∃ xo xc, W.cell? (a.add (i * 3)) = some (.int .i64 t.n) ∧ W.cell? (a.add (i * 3 + 1)) = some (.int .i64 t.v) ∧ W.cell? (a.add (i * 3 + 2)) = some (.slice xo t.ss.length xc) ∧ StpsA W xo t.ss := fun i hi => by
      have h4 := hcell i hi
      rw [List.getElem?_eq_getElem (by omega)] at h4
      obtain ⟨cs', hc1, hc2⟩ := Option.bind_eq_some_iff.1 h4
      obtain ⟨n, v, xo, xc, ss, rfl, hm, hS⟩ := code_of hc2
      rw [cellsCodeL] at hc1
      obtain ⟨_, _, hc⟩ := World.cells?_some hc1
      have g0 := hc 0 (by omega)
      have g1 := hc 1 (by omega)
      have g2 := hc 2 (by omega)
      simp only [Go.Deep.add_add] at g0 g1 g2
      exact ⟨⟨n, v, ss⟩, hm, xo, xc, by simpa using g0, by simpa using g1, by simpa using g2, hS⟩
    obtain ⟨f, hf2⟩ := Go.Deep.choose_lt key
    obtain ⟨b, off, spot⟩ := a
    refine ⟨some ⟨b, off, spot⟩, cap, (List.range len).map f, by simp, ⟨by simp; omega, fun t ht => ?_⟩, fun k t e => ?_⟩
    · obtain ⟨k, hk, rfl⟩ := List.mem_map.1 ht
      exact (hf2 k (by simpa using hk)).1
    · have hk : k < len := by
        have := (List.getElem?_eq_some_iff.1 e).1
        simpa using this
      have ht : t = f k := by
        rw [List.getElem?_map, List.getElem?_range hk] at e
        simpa using e.symm
      subst ht
      obtain ⟨_, xo, xc, g0, g1, g2, hS⟩ := hf2 k hk
      have hspot : spot = none := by
        obtain ⟨_, _, _, g', _⟩ := hf2 0 (by omega)
        simpa [Addr.add] using World.cell?_spot g'
      subst hspot
      refine ⟨b, off, xo, xc, rfl, ?_, ?_, ?_, hS⟩
      · rw [← g0]; unfold Addr.add; split <;> simp_all
      · rw [← g1]; unfold Addr.add; split <;> simp_all [Nat.add_assoc]
      · rw [← g2]; unfold Addr.add; split <;> simp_all [Nat.add_assoc]
set_option maxRecDepth 100000 in
theorem open_unit {H : Type} {enc : TypeId × Value → H} {W : World} {base : Nat} {v : Value} {d : DataW H} {p : List MemPlace} (hv : Value.okWide Tryz.prog W .any base 25 v) (h : DataW.Trod enc Tryz.prog W 0 (fun _ => true) true 25 v d p) :
    ∃ (ca ta : Option Addr) (cc tc : Nat) (cs : List Cod) (ts : List ByteArray), v = .agg #[.slice ca cs.length cc, .slice ta ts.length tc] ∧ FitC cs ∧ CodsA W ca cs ∧ FitT ts ∧ StA W ta ts := by
  obtain ⟨cs, rfl, hsz⟩ := okWide_struct Tryz.underlying25 hv
  obtain ⟨c0, c1, rfl⟩ : ∃ c0 c1, cs = #[c0, c1] := by
    have h1 : cs.size = 2 := hsz.trans cellsUnitL
    obtain ⟨l⟩ := cs
    match l, h1 with
    | [c0, c1], _ => exact ⟨c0, c1, rfl⟩
  obtain ⟨fuel, hf⟩ := h
  obtain ⟨xs, n, _, _, hl, hlen, hff⟩ := DataW.trod_struct Tryz.underlying25 hf
  obtain ⟨y0, y1, rfl⟩ : ∃ y0 y1, xs = [y0, y1] := by
    match xs, hlen with
    | [y0, y1], _ => exact ⟨y0, y1, rfl⟩
  have h0 : DataW.trod enc Tryz.prog W 0 (fun _ => true) true n 22 [c0] = some y0 := by simpa [Value.cells, cellsCodesL] using hff 0 _ rfl
  have h1 : DataW.trod enc Tryz.prog W 0 (fun _ => true) true n 23 [c1] = some y1 := by simpa [Value.cells, cellsStrsF] using hff 1 _ rfl
  obtain ⟨ca, cc, cs, rfl, hF, hC⟩ := codes_of h0
  obtain ⟨ta, tc, ts, rfl, hG, hS⟩ := strs_of h1
  exact ⟨ca, ta, cc, tc, cs, ts, rfl, hF, hC, hG, hS⟩
end Go.Proofs.YtgempjjnfpmndaaGreatDoor
