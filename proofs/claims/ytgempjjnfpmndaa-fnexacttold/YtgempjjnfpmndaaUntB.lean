/-
  What the laws do with units: how great (chapter 15).
-/
import Derived.Test.YtgempjjnfpmndaaUntP
namespace Go.Proofs.Ytgempjjnfpmndaa
open Go.ChangeShapes Go.WideShapes Go.ChangeAt Go.RowKit
set_option linter.unusedSimpArgs false
set_option linter.unusedVariables false
set_option maxHeartbeats 8000000 in
set_option maxRecDepth 100000 in
theorem szStepS_ok (w : World) (ao : Option Addr) (cap : Nat) (ss : List Stp) (l : Int) (hm : ss.length ≤ maxLen) (h0 : 0 ≤ l) (h1 : l ≤ 1048576) :
    Calls Try.prog 50 #[.slice ao ss.length cap, .int .i64 l] w fun e w' => e = .returned (.int .i64 (leftT l ss.length)) ∧ w' = w := by
  have hml' : ss.length ≤ 9223372036854775807 := by unfold maxLen at hm; omega
  by_cases hneg : l - (ss.length : Int) < 0
  · have HL : Hid (leftT l ss.length = -1) := by rw [Hid, leftT, if_neg (by omega)]
    go_enter Try.func50, Try.ntmps50
    go_wp2_with fail
    go_ret
    exact ⟨by rw [HL.out]; rfl, rfl⟩
  · have HL : Hid (leftT l ss.length = l - (ss.length : Int)) := by rw [Hid, leftT, if_pos (by omega)]
    go_enter Try.func50, Try.ntmps50
    go_wp2_with fail
    go_ret
    exact ⟨by rw [HL.out]; rfl, rfl⟩
set_option maxHeartbeats 8000000 in
set_option maxRecDepth 100000 in
theorem szCode_ok (w : World) (x y : Int) (ao : Option Addr) (cap : Nat) (ss : List Stp) (l : Int) (hm : ss.length ≤ maxLen) (h0 : 0 ≤ l) (h1 : l ≤ 1048576) :
    Calls Try.prog 46 #[.agg #[.int .i64 x, .int .i64 y, .slice ao ss.length cap], .int .i64 l] w fun e w' => e = .returned (.int .i64 (leftT l ss.length)) ∧ Kept w w' := by
  have k0 : Kept w (w.alloc (.cells #[.int .i64 x, .int .i64 y, .slice ao ss.length cap] 87)) := Kept.alloc (Below.refl _ _) _
  have hC := szStepS_ok (w.alloc (.cells #[.int .i64 x, .int .i64 y, .slice ao ss.length cap] 87)) ao cap ss l hm h0 h1
  by_cases hb : ((ss.length : Nat) : Int) ≤ l
  · rw [show leftT l ss.length = l - ((ss.length : Nat) : Int) from if_pos hb] at hC ⊢
    obtain ⟨r, hr⟩ : ∃ r, l - ((ss.length : Nat) : Int) = r := ⟨_, rfl⟩
    rw [hr] at hC ⊢
    have hd : decide (r < 0) = false := decide_eq_false (by omega)
    clear hr hb h0 h1 hm
    go_enter Try.func46, Try.ntmps46
    go_wp2_with (go_at_call 50; refine hC.mono ?_; rintro e w1 ⟨rfl, rfl⟩)
    go_ret
    exact ⟨rfl, k0⟩
  · rw [show leftT l ss.length = -1 from if_neg hb] at hC ⊢
    clear hb h0 h1 hm
    go_enter Try.func46, Try.ntmps46
    go_wp2_with (go_at_call 50; refine hC.mono ?_; rintro e w1 ⟨rfl, rfl⟩)
    go_ret
    exact ⟨rfl, k0⟩
set_option maxHeartbeats 8000000 in
set_option maxRecDepth 100000 in
theorem szCodeS_ok (w : World) (ao : Option Addr) (cap : Nat) (cs : List Cod) (l : Int) (hA : CodsA w ao cs) (hF : FitC cs) (h0 : 0 ≤ l) (h1 : l ≤ 1048576) :
    Calls Try.prog 39 #[.slice ao cs.length cap, .int .i64 l] w fun e w' => e = .returned (.int .i64 (leftT l (blkC cs))) ∧ Kept w w' := by
  have HA : Hid _ := hA
  have HF : Hid _ := hF
  have hml' : cs.length ≤ 9223372036854775807 := by have := hF.1; unfold maxLen at this; omega
  clear hA hF
  by_cases hneg : l - (cs.length : Int) < 0
  · have HL : Hid (leftT l (blkC cs) = -1) := by rw [Hid, leftT, if_neg (by unfold blkC; omega)]
    go_enter Try.func39, Try.ntmps39
    go_wp2_with fail
    go_ret
    exact ⟨by rw [HL.out]; rfl, Below.refl _ _⟩
  · go_enter Try.func39, Try.ntmps39
    go_wp2_with fail
    go_loopw [1, 5] (fun lv iv wr => ∃ (k : Nat), iv = .int .i64 k ∧ k ≤ cs.length ∧ ∃ r, lv = .int .i64 r ∧ Hid (r = l - (cs.length : Int) - ((sumC (cs.take k) : Nat) : Int) ∧ (cs.length : Int) + ((sumC (cs.take k) : Nat) : Int) ≤ l) ∧ Hid (Kept w wr)) (fun _ i _ => cs.length - (intOf i).toNat)
    case atStart => exact ⟨0, rfl, Nat.zero_le _, _, rfl, ⟨by simp [sumC], by simp [sumC]; omega⟩, Below.refl _ _⟩
    case round =>
      obtain ⟨k, rfl, hk, r0, rfl, hre, HK⟩ := hrel
      obtain ⟨hr00, hle⟩ := hre.out
      by_cases hlt : k < cs.length
      · obtain ⟨x, hx⟩ : ∃ x, cs[k]? = some x := ⟨cs[k], List.getElem?_eq_getElem hlt⟩
        have q1 : (k : Int) < (cs.length : Int) := by omega
        have q2 : (k : Int) + 1 ≤ 9223372036854775807 := by omega
        have hst := sumC_take hx
        have hsl := sumC_le cs (k + 1)
        obtain ⟨b, off, xo, xc, rfl, g0, g1, g2, hX⟩ := (CodsA.kept HA.out HK.out) k x hx
        have hr1 : 0 ≤ r0 := by omega
        have hr2 : r0 ≤ 1048576 := by omega
        have hC := szCode_ok wr x.n x.v xo xc x.ss r0 (HF.out.2 x (List.mem_of_getElem? hx)) hr1 hr2
        by_cases hf : ((x.ss.length : Nat) : Int) ≤ r0
        · rw [show leftT r0 x.ss.length = r0 - ((x.ss.length : Nat) : Int) from if_pos hf] at hC
          obtain ⟨r, hr⟩ : ∃ r, r0 - ((x.ss.length : Nat) : Int) = r := ⟨_, rfl⟩
          have HN : Hid (r = l - (cs.length : Int) - ((sumC (cs.take (k + 1)) : Nat) : Int) ∧ (cs.length : Int) + ((sumC (cs.take (k + 1)) : Nat) : Int) ≤ l) := ⟨by omega, by omega⟩
          rw [hr] at hC
          have hd : decide (r < 0) = false := decide_eq_false (by omega)
          clear hr hst hsl hle hr00 hre HF HA hneg h0 h1 hml' hx hX hf hr1 hr2
          go_wp2_with (go_at_call 46; refine hC.mono ?_; rintro e wx ⟨rfl, hkx⟩)
          exact ⟨⟨k + 1, by go_num, by omega, r, rfl, HN.out, Kept.trans HK.out hkx⟩, by simp [intOf]; omega⟩
        · rw [show leftT r0 x.ss.length = -1 from if_neg hf] at hC
          have HL : Hid (leftT l (blkC cs) = -1) := by rw [Hid, leftT, if_neg (by unfold blkC; omega)]
          clear hst hsl hle hr00 hre HF HA hneg h0 h1 hml' hx hX hf hr1 hr2
          go_wp2_with (go_at_call 46; refine hC.mono ?_; rintro e wx ⟨rfl, hkx⟩)
          go_ret
          exact ⟨by rw [HL.out]; rfl, Kept.trans HK.out hkx⟩
      · have q1 : ¬ (k : Int) < (cs.length : Int) := by omega
        have HL : Hid (leftT l (blkC cs) = r0) := by
          have e : k = cs.length := by omega
          rw [e, List.take_length] at hle hr00
          rw [Hid, blkC, leftT, if_pos (by omega)]
          omega
        clear hr00 hle
        go_wp2_with fail
        go_ret
        exact ⟨by rw [HL.out]; rfl, HK.out⟩
set_option maxHeartbeats 8000000 in
set_option maxRecDepth 100000 in
theorem szUnit_ok (w : World) (ca ta : Option Addr) (cc tc : Nat) (cs : List Cod) (ts : List ByteArray) (l : Int) (hA : CodsA w ca cs) (hF : FitC cs) (hB : StA w ta ts) (hG : FitT ts) (h0 : 0 ≤ l) (h1 : l ≤ 1048576) :
    Calls Try.prog 13 #[.agg #[.slice ca cs.length cc, .slice ta ts.length tc], .int .i64 l] w fun e w' => (∃ r, e = .returned (.int .i64 r) ∧ ((0 ≤ r ∧ decide (r < 0) = false ∧ blkC cs + blkT ts ≤ 1048576) ∨ r = -1)) ∧ Kept w w' := by
  have k0 : Kept w (w.alloc (.cells #[.slice ca cs.length cc, .slice ta ts.length tc] 25)) := Kept.alloc (Below.refl _ _) _
  have bx := Cells.new w 25 #[.slice ca cs.length cc, .slice ta ts.length tc]
  have hC := szCodeS_ok _ ca cc cs l (hA.kept k0) hF h0 h1
  by_cases hb : ((blkC cs : Nat) : Int) ≤ l
  · rw [show leftT l (blkC cs) = l - ((blkC cs : Nat) : Int) from if_pos hb] at hC
    obtain ⟨r, hr⟩ : ∃ r, l - ((blkC cs : Nat) : Int) = r := ⟨_, rfl⟩
    rw [hr] at hC
    have hd : decide (r < 0) = false := decide_eq_false (by omega)
    have HD : Hid (∀ u, Kept (w.alloc (.cells #[.slice ca cs.length cc, .slice ta ts.length tc] 25)) u → Calls Try.prog 18 #[.slice ta ts.length tc, .int .i64 r] u fun e w' => e = .returned (.int .i64 (leftT r (blkT ts))) ∧ w' = u) := fun u hu => szStringS_ok u ta tc ts r ((hB.kept k0).kept hu) hG (by omega) (by omega)
    by_cases hb2 : ((blkT ts : Nat) : Int) ≤ r
    · rw [show leftT r (blkT ts) = r - ((blkT ts : Nat) : Int) from if_pos hb2] at HD
      obtain ⟨q, hq⟩ : ∃ q, r - ((blkT ts : Nat) : Int) = q := ⟨_, rfl⟩
      rw [hq] at HD
      have hd2 : decide (q < 0) = false := decide_eq_false (by omega)
      have HZ : Hid (0 ≤ q ∧ blkC cs + blkT ts ≤ 1048576) := ⟨by omega, by omega⟩
      clear hr hq hb hb2 h0 h1 hA hB hF hG
      go_enter Try.func13, Try.ntmps13
      go_wp2_with (first
        | (have _tk := hk1; go_at_call 18; refine (HD.out _ hk1).mono ?_; rintro e w2 ⟨rfl, rfl⟩)
        | (go_at_call 39; refine hC.mono ?_; rintro e w1 ⟨rfl, hk1⟩; have m := bx.kept hk1; have m0 := m.cell 0; have m1 := m.cell 1))
      go_ret
      exact ⟨⟨q, rfl, .inl ⟨HZ.out.1, hd2, HZ.out.2⟩⟩, Kept.trans k0 hk1⟩
    · rw [show leftT r (blkT ts) = -1 from if_neg hb2] at HD
      clear hr hb hb2 h0 h1 hA hB hF hG
      go_enter Try.func13, Try.ntmps13
      go_wp2_with (first
        | (have _tk := hk1; go_at_call 18; refine (HD.out _ hk1).mono ?_; rintro e w2 ⟨rfl, rfl⟩)
        | (go_at_call 39; refine hC.mono ?_; rintro e w1 ⟨rfl, hk1⟩; have m := bx.kept hk1; have m0 := m.cell 0; have m1 := m.cell 1))
      go_ret
      exact ⟨⟨-1, rfl, .inr rfl⟩, Kept.trans k0 hk1⟩
  · rw [show leftT l (blkC cs) = -1 from if_neg hb] at hC
    clear hb h0 h1 hA hB hF hG
    go_enter Try.func13, Try.ntmps13
    go_wp2_with (go_at_call 39; refine hC.mono ?_; rintro e w1 ⟨rfl, hk1⟩)
    go_ret
    exact ⟨⟨-1, rfl, .inr rfl⟩, Kept.trans k0 hk1⟩
end Go.Proofs.Ytgempjjnfpmndaa
