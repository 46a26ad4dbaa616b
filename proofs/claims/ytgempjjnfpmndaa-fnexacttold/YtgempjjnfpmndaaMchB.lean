/-
  What the laws do with machines: how great (chapter 17).
-/
import Derived.Test.YtgempjjnfpmndaaMchP
import Derived.Test.YtgempjjnfpmndaaUntB
import Derived.Test.YtgempjjnfpmndaaHelpQ
namespace Go.Proofs.Ytgempjjnfpmndaa
open Go.ChangeShapes Go.WideShapes Go.ChangeAt Go.RowKit
set_option linter.unusedSimpArgs false
set_option linter.unusedVariables false
/-- What is left, or nothing. -/
def LeftB (n : Nat) (r : Int) : Prop := (0 ≤ r ∧ r ≤ 1048576 ∧ decide (r < 0) = false ∧ n ≤ 1048576) ∨ r = -1
theorem LeftB.of {l : Int} {n : Nat} (h0 : 0 ≤ l) (h1 : l ≤ 1048576) : LeftB n (leftT l n) := by
  unfold LeftB leftT
  split
  · left
    refine ⟨by omega, by omega, decide_eq_false (by omega), by omega⟩
  · right; rfl
theorem leftT_sum (l : Int) (n : Nat) : leftT l n = -1 ∨ leftT l n + (n : Int) ≤ l := by
  unfold leftT
  split <;> omega
set_option maxHeartbeats 8000000 in
set_option maxRecDepth 100000 in
theorem szFrameS_ok (w : World) (ao : Option Addr) (cap : Nat) (ss : List Stp) (l : Int) (hm : ss.length ≤ maxLen) (h0 : 0 ≤ l) (h1 : l ≤ 1048576) :
    Calls Try.prog 16 #[.slice ao ss.length cap, .int .i64 l] w fun e w' => e = .returned (.int .i64 (leftT l ss.length)) ∧ w' = w := by
  have hml' : ss.length ≤ 9223372036854775807 := by unfold maxLen at hm; omega
  by_cases hneg : l - (ss.length : Int) < 0
  · have HL : Hid (leftT l ss.length = -1) := by rw [Hid, leftT, if_neg (by omega)]
    go_enter Try.func16, Try.ntmps16
    go_wp2_with fail
    go_ret
    exact ⟨by rw [HL.out]; rfl, rfl⟩
  · have HL : Hid (leftT l ss.length = l - (ss.length : Int)) := by rw [Hid, leftT, if_pos (by omega)]
    go_enter Try.func16, Try.ntmps16
    go_wp2_with fail
    go_ret
    exact ⟨by rw [HL.out]; rfl, rfl⟩
theorem szIntS_le (w : World) (ao : Option Addr) (cap len : Nat) (l : Int) (hm : len ≤ maxLen) (h0 : 0 ≤ l) (h1 : l ≤ 1048576) :
    Calls Try.prog 17 #[.slice ao len cap, .int .i64 l] w fun e w' => (∃ r, e = .returned (.int .i64 r) ∧ LeftB len r) ∧ Kept w w' := by
  by_cases h : l - (len : Int) < 0
  · refine (szIntS_over w ao cap len l h h0 h1 (by unfold maxLen at hm; omega)).mono ?_
    rintro e w' ⟨rfl, rfl⟩
    exact ⟨⟨_, rfl, .inr rfl⟩, Below.refl _ _⟩
  · refine (szIntS_from w ao cap len l (by omega) h1).mono ?_
    rintro e w' ⟨rfl, rfl⟩
    exact ⟨⟨_, rfl, .inl ⟨by omega, by omega, decide_eq_false (by omega), by omega⟩⟩, Below.refl _ _⟩
theorem szIntS_lf (w : World) (ao : Option Addr) (cap len : Nat) (l : Int) (hm : len ≤ maxLen) (h0 : 0 ≤ l) (h1 : l ≤ 1048576) :
    Calls Try.prog 17 #[.slice ao len cap, .int .i64 l] w fun e w' => (∃ r, e = .returned (.int .i64 r) ∧ LeftB len r ∧ (r = -1 ∨ (len : Int) ≤ l)) ∧ Kept w w' := by
  by_cases h : l - (len : Int) < 0
  · refine (szIntS_over w ao cap len l h h0 h1 (by unfold maxLen at hm; omega)).mono ?_
    rintro e w' ⟨rfl, rfl⟩
    exact ⟨⟨_, rfl, .inr rfl, .inl rfl⟩, Below.refl _ _⟩
  · refine (szIntS_from w ao cap len l (by omega) h1).mono ?_
    rintro e w' ⟨rfl, rfl⟩
    exact ⟨⟨_, rfl, .inl ⟨by omega, by omega, decide_eq_false (by omega), by omega⟩, .inr (by omega)⟩, Below.refl _ _⟩
theorem szMarker_le (w : World) (ga ba : Option Addr) (gc bc lg lb : Nat) (ph at' l : Int) (hm : lg ≤ maxLen) (hm2 : lb ≤ maxLen) (h0 : 0 ≤ l) (h1 : l ≤ 1048576) :
    Calls Try.prog 15 #[.agg #[.int .i64 ph, .slice ga lg gc, .slice ba lb bc, .int .i64 at'], .int .i64 l] w fun e w' => (∃ r, e = .returned (.int .i64 r) ∧ LeftB (lg + lb) r) ∧ Kept w w' := by
  by_cases h : l - (lg : Int) - (lb : Int) < 0
  · refine (szMarker_over w ga ba gc bc lg lb ph at' l h h0 h1 (by unfold maxLen at hm; omega) (by unfold maxLen at hm2; omega)).mono ?_
    rintro e w' ⟨rfl, hk⟩
    exact ⟨⟨_, rfl, .inr rfl⟩, hk⟩
  · refine (szMarker_ok w ga ba gc bc lg lb ph at' l (by omega) h1).mono ?_
    rintro e w' ⟨rfl, hk⟩
    exact ⟨⟨_, rfl, .inl ⟨by omega, by omega, decide_eq_false (by omega), by omega⟩⟩, hk⟩
set_option maxHeartbeats 8000000 in
set_option maxRecDepth 100000 in
theorem szSlab_le (w : World) (ao : Option Addr) (cap len : Nat) (l : Int) (hm : len ≤ maxLen) (h0 : 0 ≤ l) (h1 : l ≤ 1048576) :
    Calls Try.prog 14 #[.agg #[.slice ao len cap], .int .i64 l] w fun e w' => (∃ r, e = .returned (.int .i64 r) ∧ LeftB len r) ∧ Kept w w' := by
  have k0 : Kept w (w.alloc (.cells #[.slice ao len cap] 28)) := Kept.alloc (Below.refl _ _) _
  have hC := szIntS_le (w.alloc (.cells #[.slice ao len cap] 28)) ao cap len l hm h0 h1
  clear h0 h1 hm
  go_enter Try.func14, Try.ntmps14
  go_wp2_with fail
  refine hC.mono ?_
  rintro e w1 ⟨⟨r, rfl, hr⟩, hk1⟩
  have HR : Hid _ := hr
  rcases hr with ⟨_, _, hd, _⟩ | rfl
  · go_wp2_with fail
    go_ret
    exact ⟨⟨_, rfl, HR.out⟩, k0.trans hk1⟩
  · go_wp2_with fail
    go_ret
    exact ⟨⟨_, rfl, .inr rfl⟩, k0.trans hk1⟩
set_option maxHeartbeats 8000000 in
set_option maxRecDepth 100000 in
theorem szUnit_le (w : World) (ca ta : Option Addr) (cc tc : Nat) (cs : List Cod) (ts : List ByteArray) (l : Int) (hA : CodsA w ca cs) (hF : FitC cs) (hB : StA w ta ts) (hG : FitT ts) (h0 : 0 ≤ l) (h1 : l ≤ 1048576) :
    Calls Try.prog 13 #[.agg #[.slice ca cs.length cc, .slice ta ts.length tc], .int .i64 l] w fun e w' => (∃ r, e = .returned (.int .i64 r) ∧ LeftB (blkC cs + blkT ts) r) ∧ Kept w w' := by
  have k0 : Kept w (w.alloc (.cells #[.slice ca cs.length cc, .slice ta ts.length tc] 25)) := Kept.alloc (Below.refl _ _) _
  have bx := Cells.new w 25 #[.slice ca cs.length cc, .slice ta ts.length tc]
  have hC := szCodeS_ok _ ca cc cs l (hA.kept k0) hF h0 h1
  obtain ⟨q, hq⟩ : ∃ q, leftT l (blkC cs) = q := ⟨_, rfl⟩
  rw [hq] at hC
  by_cases hb : ((blkC cs : Nat) : Int) ≤ l
  · have hq2 : q = l - ((blkC cs : Nat) : Int) := by rw [← hq]; exact if_pos hb
    have hd : decide (q < 0) = false := decide_eq_false (by omega)
    have HD : Hid (∀ u, Kept (w.alloc (.cells #[.slice ca cs.length cc, .slice ta ts.length tc] 25)) u → Calls Try.prog 18 #[.slice ta ts.length tc, .int .i64 q] u fun e w' => (∃ r, e = .returned (.int .i64 r) ∧ LeftB (blkC cs + blkT ts) r ∧ (r = -1 ∨ decide (r < 0) = false)) ∧ w' = u) := fun u hu => by
      refine (szStringS_ok u ta tc ts q ((hB.kept k0).kept hu) hG (by omega) (by omega)).mono ?_
      rintro e w' ⟨rfl, rfl⟩
      refine ⟨⟨_, rfl, ?_, ?_⟩, rfl⟩
      · unfold LeftB leftT
        split
        · left
          exact ⟨by omega, by omega, decide_eq_false (by omega), by omega⟩
        · right; rfl
      · unfold leftT
        split
        · right; exact decide_eq_false (by omega)
        · left; rfl
    clear hq hq2 hb h0 h1 hA hB hF hG
    go_enter Try.func13, Try.ntmps13
    go_wp2_with fail
    refine hC.mono ?_
    rintro e w1 ⟨rfl, hk1⟩
    have mm := bx.kept hk1
    have m0 := mm.cell 0
    have m1 := mm.cell 1
    go_wp2_with fail
    refine (HD.out _ hk1).mono ?_
    rintro e w2 ⟨⟨r, rfl, hr, hd2⟩, rfl⟩
    have HR : Hid _ := hr
    rcases hd2 with rfl | hd2
    · go_wp2_with fail
      go_ret
      exact ⟨⟨_, rfl, .inr rfl⟩, Kept.trans k0 hk1⟩
    · go_wp2_with fail
      go_ret
      exact ⟨⟨_, rfl, HR.out⟩, Kept.trans k0 hk1⟩
  · obtain rfl : -1 = q := by rw [← hq]; exact (if_neg hb).symm
    clear hq hb h0 h1 hA hB hF hG
    go_enter Try.func13, Try.ntmps13
    go_wp2_with (go_at_call 39; refine hC.mono ?_; rintro e w1 ⟨rfl, hk1⟩)
    go_ret
    exact ⟨⟨-1, rfl, .inr rfl⟩, Kept.trans k0 hk1⟩
set_option maxHeartbeats 8000000 in
set_option maxRecDepth 100000 in
theorem szMachine_ok (w : World) (h : MchH) (m : Mch) (hA : MchA w h m) (hF : MchFit m) :
    Calls Try.prog 4 #[.agg (mchC h m), .int .i64 1048576] w fun e w' => (∃ r, e = .returned (.int .i64 r) ∧ ((decide (r < 0) = false ∧ MchLe m) ∨ r = -1)) ∧ Kept w w' := by
  obtain ⟨WX, hWX⟩ : ∃ WX, w.alloc (.cells (mchC h m) 33) = WX := ⟨_, rfl⟩
  have k0 : Kept w WX := hWX ▸ Kept.alloc (Below.refl _ _) _
  have bx : Cells WX w.heap.size 33 (mchC h m) := hWX ▸ Cells.new w 33 (mchC h m)
  have HX : Hid (∀ u, Kept WX u → Cells u w.heap.size 33 (mchC h m)) := fun u hu => bx.kept hu
  have H1 : Hid (Calls Try.prog 13 #[.agg #[.slice h.ca m.cs.length h.cc, .slice h.ta m.ts.length h.tc], .int .i64 1048576] WX fun e w' => (∃ r, e = .returned (.int .i64 r) ∧ LeftB (blkC m.cs + blkT m.ts) r) ∧ Kept WX w') := szUnit_le WX h.ca h.ta h.cc h.tc m.cs m.ts 1048576 (hA.kept k0).c hF.c (hA.kept k0).t hF.t (by decide) (by decide)
  have H6 : Hid (∀ u l, Kept WX u → 0 ≤ l → l ≤ 1048576 → Calls Try.prog 18 #[.slice h.la m.ls.length h.lc, .int .i64 l] u fun e w' => (∃ r, e = .returned (.int .i64 r) ∧ LeftB (blkT m.ls) r) ∧ w' = u) := fun u l hu h0 h1 => by
    refine (szStringS_ok u h.la h.lc m.ls l (hA.l.kept (k0.trans hu)) hF.l h0 h1).mono ?_
    rintro e w' ⟨rfl, rfl⟩
    exact ⟨⟨_, rfl, LeftB.of h0 h1⟩, rfl⟩
  have HF : Hid _ := hF
  have HK0 : Hid (Kept w WX) := k0
  have a0 := bx.m0; have a1 := bx.m1
  clear hA hF bx k0
  go_enter Try.func4, Try.ntmps4
  go_upto_region 1 with (fail)
  try simp only [hWX]
  clear hWX
  go_wp2_with fail
  refine H1.out.mono ?_
  rintro e w1 ⟨⟨r1, rfl, hr1⟩, k1⟩
  clear a0 a1
  rcases hr1 with ⟨u1, u2, hd1, hn1⟩ | rfl
  rotate_left
  · go_wp2_with fail
    go_ret
    exact ⟨⟨_, rfl, .inr rfl⟩, Kept.trans HK0.out k1⟩
  have HN1 : Hid _ := hn1
  clear hn1
  have a2 := (HX.out _ k1).m2
  have H2 := szSlab_le w1 h.sa h.sc m.zs.length r1 HF.out.z u1 u2
  clear u1 u2
  go_wp2_with fail
  refine H2.mono ?_
  rintro e w2 ⟨⟨r2, rfl, hr2⟩, k2'⟩
  have k2 := k1.trans k2'
  clear a2 k2' hd1
  rcases hr2 with ⟨u1, u2, hd2, hn2⟩ | rfl
  rotate_left
  · go_wp2_with fail
    go_ret
    exact ⟨⟨_, rfl, .inr rfl⟩, Kept.trans HK0.out k2⟩
  have HN2 : Hid _ := hn2
  clear hn2
  have a3 := (HX.out _ k2).m3; have a4 := (HX.out _ k2).m4; have a5 := (HX.out _ k2).m5; have a6 := (HX.out _ k2).m6
  have H3 := szMarker_le w2 h.ga h.ba h.gc h.bc m.gs.length m.bs.length m.ph m.at' r2 HF.out.g HF.out.b u1 u2
  clear u1 u2 k1
  go_wp2_with fail
  refine H3.mono ?_
  rintro e w3 ⟨⟨r3, rfl, hr3⟩, k3'⟩
  have k3 := k2.trans k3'
  clear a3 a4 a5 a6 k3' hd2
  rcases hr3 with ⟨u1, u2, hd3, hn3⟩ | rfl
  rotate_left
  · go_wp2_with fail
    go_ret
    exact ⟨⟨_, rfl, .inr rfl⟩, Kept.trans HK0.out k3⟩
  have HN3 : Hid _ := hn3
  clear hn3
  have a7 := (HX.out _ k3).m7
  have H4 := szFrameS_ok w3 h.fa h.fc m.fs r3 HF.out.f u1 u2
  have hr4 := LeftB.of (n := m.fs.length) u1 u2
  have hs4 := leftT_sum r3 m.fs.length
  have H3u : Hid (r3 ≤ 1048576) := u2
  clear u1 u2 k2
  go_wp2_with fail
  refine H4.mono ?_
  rintro e w4 ⟨rfl, rfl⟩
  obtain ⟨r4, hr4e⟩ : ∃ r, leftT r3 m.fs.length = r := ⟨_, rfl⟩
  rw [hr4e] at hr4 hs4
  simp only [hr4e]
  clear a7 hd3 hr4e
  rcases hr4 with ⟨u1, u2, hd4, hn4⟩ | rfl
  rotate_left
  · go_wp2_with fail
    go_ret
    exact ⟨⟨_, rfl, .inr rfl⟩, Kept.trans HK0.out k3⟩
  have HN4 : Hid _ := hn4
  have HS4 : Hid (r4 + (m.fs.length : Int) ≤ 1048576) := by have := H3u.out; rw [Hid]; omega
  clear hn4 hs4
  have a8 := (HX.out _ k3).m8
  have H5 := szIntS_lf w4 h.ka h.kc m.ks.length r4 HF.out.k u1 u2
  clear u1 u2
  go_wp2_with fail
  refine H5.mono ?_
  rintro e w5 ⟨⟨r5, rfl, hr5, hs5⟩, k5'⟩
  have k5 := k3.trans k5'
  clear a8 k5' hd4
  rcases hr5 with ⟨u1, u2, hd5, hn5⟩ | rfl
  rotate_left
  · go_wp2_with fail
    go_ret
    exact ⟨⟨_, rfl, .inr rfl⟩, Kept.trans HK0.out k5⟩
  have HN5 : Hid _ := hn5
  have HS5 : Hid (m.ks.length + m.fs.length ≤ 1048576) := by have := HS4.out; rw [Hid]; omega
  clear hn5 hs5
  have a9 := (HX.out _ k5).m9
  have H7 := H6.out w5 r5 k5 u1 u2
  clear u1 u2 k3
  go_wp2_with fail
  refine H7.mono ?_
  rintro e w6 ⟨⟨r6, rfl, hr6⟩, rfl⟩
  clear a9 hd5
  rcases hr6 with ⟨u1, u2, hd6, hn6⟩ | rfl
  rotate_left
  · go_wp2_with fail
    go_ret
    exact ⟨⟨_, rfl, .inr rfl⟩, Kept.trans HK0.out k5⟩
  have HN6 : Hid _ := hn6
  clear hn6
  clear u1 u2
  go_wp2_with fail
  go_ret
  refine ⟨⟨r6, rfl, .inl ⟨hd6, HN1.out, HN2.out, ?_, ?_, HN4.out, HN5.out, HN6.out, HS5.out⟩⟩, Kept.trans HK0.out k5⟩
  · exact Nat.le_trans (Nat.le_add_right _ _) HN3.out
  · exact Nat.le_trans (Nat.le_add_left _ _) HN3.out
end Go.Proofs.Ytgempjjnfpmndaa
