/-
  The law FnExactTriOk is proved: at every slab and marker impl.TriOk answers as its model, and it writes into neither.
-/
import Derived.Test.YtjgafhmgmddgdaaRows
import Derived.Deep.RegionWith
import Derived.Deep.CutRange
import Derived.Test.YtjgafhmgmddgdaaFrame
import Derived.Test.YtjgafhmgmddgdaaHelpQ
import Derived.Test.YtjgafhmgmddgdaaFrame8
import Derived.Test.YtjgafhmgmddgdaaMrkK
import Derived.Test.YtjgafhmgmddgdaaGrpMt
namespace Go.Proofs.Ytjgafhmgmddgdaa.fnExactTriOk
open Go.ChangeShapes Go.WideShapes Go.ChangeAt Go.RowKit
set_option linter.unusedVariables false

theorem own : ownKnob Try.prog.godebug = none := by kernel_rfl

set_option maxHeartbeats 8000000 in
set_option maxRecDepth 100000 in
theorem walk (w : World) (ao0 : Option Addr) (cap0 : Nat) (zs0 : List Int) (hc0 : zs0.length ≤ cap0) (hm0 : cap0 ≤ maxLen) (hI0 : Ints w ao0 zs0) (ph1 at1 : Int) (ga1 ba1 : Option Addr) (gc1 bc1 : Nat) (gs1 bs1 : List Int) (hg1 : gs1.length ≤ gc1 ∧ gc1 ≤ maxLen ∧ Ints w ga1 gs1) (hb1 : bs1.length ≤ bc1 ∧ bc1 ≤ maxLen ∧ Ints w ba1 bs1) (wp1 : (Lit.int .i64 ph1).wf = true) (wa1 : (Lit.int .i64 at1).wf = true) :
    Calls Try.prog 6 #[.agg #[.slice ao0 zs0.length cap0], .agg #[.int .i64 ph1, .slice ga1 gs1.length gc1, .slice ba1 bs1.length bc1, .int .i64 at1]] w fun e w' => e = .returned (.bool true) ∧ Kept w w' := by
  have hmg := hg1.2.1
  have hmb := hb1.2.1
  have hlg := hg1.1
  have hlb := hb1.1
  unfold maxLen at hmg hmb hm0
  have b0 := (Cells.new w 24 #[.slice ao0 zs0.length cap0]).alloc (.cells #[.int .i64 ph1, .slice ga1 gs1.length gc1, .slice ba1 bs1.length bc1, .int .i64 at1] 26)
  have b1 := Cells.new (w.alloc (.cells #[.slice ao0 zs0.length cap0] 24)) 26 #[.int .i64 ph1, .slice ga1 gs1.length gc1, .slice ba1 bs1.length bc1, .int .i64 at1]
  have k0 : Kept w ((w.alloc (.cells #[.slice ao0 zs0.length cap0] 24)).alloc (.cells #[.int .i64 ph1, .slice ga1 gs1.length gc1, .slice ba1 bs1.length bc1, .int .i64 at1] 26)) := (Kept.alloc (Below.refl _ _) _).alloc _
  simp only [World.size_alloc] at b1
  by_cases hb : 1048576 < zs0.length
  · go_enter Try.func6, Try.ntmps6
    go_wp2_with (go_at_call 7; refine (szSlab_big _ ao0 cap0 zs0.length hb (by omega)).mono ?_; rintro e w1 ⟨rfl, hK1⟩)
    go_ret
    exact ⟨rfl, k0.trans hK1⟩
  have hl : zs0.length ≤ 1048576 := by omega
  by_cases hbm : (1048576 : Int) - (zs0.length : Int) - (gs1.length : Int) - (bs1.length : Int) < 0
  · have d1 : decide ((1048576 : Int) - (zs0.length : Int) < 0) = false := by rw [decide_eq_false_iff_not]; omega
    go_enter Try.func6, Try.ntmps6
    go_wp2_with fail
    refine (szSlab_ok _ ao0 cap0 zs0.length hl).mono ?_
    rintro e w1 ⟨rfl, hK1⟩
    have c0 := (b1.kept hK1).cell 0
    have c1 := (b1.kept hK1).cell 1
    have c2 := (b1.kept hK1).cell 2
    have c3 := (b1.kept hK1).cell 3
    go_wp2_with fail
    refine (szMarker_over _ ga1 ba1 gc1 bc1 gs1.length bs1.length ph1 at1 _ hbm (by omega) (by omega) (by omega) (by omega)).mono ?_
    rintro e w2 ⟨rfl, hK2⟩
    go_wp2_with fail
    go_ret
    exact ⟨rfl, (k0.trans hK1).trans hK2⟩
  have hnn : 0 ≤ (1048576 : Int) - (zs0.length : Int) - (gs1.length : Int) - (bs1.length : Int) := by omega
  have hgl : gs1.length ≤ 1048576 := by omega
  have hbl : bs1.length ≤ 1048576 := by omega
  have HIs : Hid (∀ u, Kept w u → Ints u ao0 zs0) := fun u hu => hI0.kept hu
  have HIg : Hid (∀ u, Kept w u → Ints u ga1 gs1) := fun u hu => hg1.2.2.kept hu
  have HIb : Hid (∀ u, Kept w u → Ints u ba1 bs1) := fun u hu => hb1.2.2.kept hu
  have d1 : decide ((1048576 : Int) - (zs0.length : Int) < 0) = false := by rw [decide_eq_false_iff_not]; omega
  have d2 : decide ((1048576 : Int) - (zs0.length : Int) - (gs1.length : Int) - (bs1.length : Int) < 0) = false := by rw [decide_eq_false_iff_not]; omega
  obtain ⟨r, hr⟩ : ∃ r, triR zs0 ph1 gs1 bs1 at1 = r := ⟨_, rfl⟩
  have HSp : Hid (∀ (u : World) (ao ga ba : Option Addr) (cap gc bc : Nat), Ints u ao zs0 → MkI u ga ba gc bc gs1 bs1 → Calls Try.prog 25 #[.agg #[.slice ao zs0.length cap], .agg #[.int .i64 ph1, .slice ga gs1.length gc, .slice ba bs1.length bc, .int .i64 at1]] u fun e w' => e = .returned (.bool r) ∧ Kept u w') := fun u ao ga ba cap gc bc h1 h2 => by rw [← hr]; exact spec_TriOk_ok u ao ga ba cap gc bc zs0 gs1 bs1 ph1 at1 h1 hl h2
  have HIm : Hid (∀ (u : World) (ao ga ba : Option Addr) (cap gc bc : Nat), Ints u ao zs0 → MkI u ga ba gc bc gs1 bs1 → (ga = none → gc = 0) → Calls Try.prog 26 #[.agg #[.slice ao zs0.length cap], .agg #[.int .i64 ph1, .slice ga gs1.length gc, .slice ba bs1.length bc, .int .i64 at1]] u fun e w' => e = .returned (.bool r) ∧ Kept u w') := fun u ao ga ba cap gc bc h1 h2 h3 => by rw [← hr]; exact impl_TriOk_ok u ao ga ba cap gc bc zs0 gs1 bs1 ph1 at1 h1 hl h2 h3
  clear hr hb hbm hI0 hg1 hb1 hm0 hc0 wp1 wa1
  go_enter Try.func6, Try.ntmps6
  go_upto_region 2 with (fail)
  obtain ⟨WX, hWX⟩ : ∃ WX, (w.alloc (.cells #[.slice ao0 zs0.length cap0] 24)).alloc (.cells #[.int .i64 ph1, .slice ga1 gs1.length gc1, .slice ba1 bs1.length bc1, .int .i64 at1] 26) = WX := ⟨_, rfl⟩
  rw [hWX] at b0 b1 k0
  simp only [hWX]
  clear hWX
  have HX0 : Hid (∀ u, Kept WX u → Cells u w.heap.size 24 #[.slice ao0 zs0.length cap0]) := fun u hu => b0.kept hu
  have HX1 : Hid (∀ u, Kept WX u → Cells u (w.heap.size + 1) 26 #[.int .i64 ph1, .slice ga1 gs1.length gc1, .slice ba1 bs1.length bc1, .int .i64 at1]) := fun u hu => b1.kept hu
  have HKX : Hid (Kept w WX) := k0
  have s0 := b0.cell 0
  clear b0 b1 k0
  go_wp2_with fail
  refine (szSlab_ok _ ao0 cap0 zs0.length hl).mono ?_
  rintro e w1 ⟨rfl, hK1⟩
  have c0 := (HX1.out w1 hK1).cell 0
  have c1 := (HX1.out w1 hK1).cell 1
  have c2 := (HX1.out w1 hK1).cell 2
  have c3 := (HX1.out w1 hK1).cell 3
  clear s0
  go_wp2_with fail
  refine (szMarker_ok _ ga1 ba1 gc1 bc1 gs1.length bs1.length ph1 at1 _ hnn (by omega)).mono ?_
  rintro e w2 ⟨rfl, hK2⟩
  have k2 : Kept WX w2 := hK1.trans hK2
  clear c0 c1 c2 c3
  go_upto_region 8 with (fail)
  go_cut [6] from 20 to 24 (fun s6 wx => s6 = .bool r ∧ Kept w2 wx)
  case first =>
    have kD : Kept WX w2.drew := k2.drew
    have kDw : Kept w w2.drew := Kept.trans HKX.out kD
    have s0 := (HX0.out _ kD).cell 0
    have c0 := (HX1.out _ kD).cell 0
    have c1 := (HX1.out _ kD).cell 1
    have c2 := (HX1.out _ kD).cell 2
    have c3 := (HX1.out _ kD).cell 3
    go_region_with (first | (go_at_call 10; refine (toSlab_ok _ ao0 cap0 zs0 (HIs.out _ (by first | exact kMw | exact kDw)) hl).mono ?_; rintro e wS ⟨gS, rfl, hgS, hRS, hKS⟩; have kS : Kept WX wS := Kept.trans (by first | exact kM | exact kD) hKS; have kSw : Kept w wS := Kept.trans HKX.out kS; have e0 := (HX1.out _ kS).cell 0; have e1 := (HX1.out _ kS).cell 1; have e2 := (HX1.out _ kS).cell 2; have e3 := (HX1.out _ kS).cell 3) | (go_at_call 11; refine (toMarker_ok _ ga1 ba1 gc1 bc1 ph1 at1 gs1 bs1 (HIg.out _ (by first | exact kSw | exact kDw)) (HIb.out _ (by first | exact kSw | exact kDw)) hgl hbl).mono ?_; rintro e wM ⟨gM, gN, rfl, hgM, hgN, hRM, hRN, hKM⟩; have kM : Kept WX wM := Kept.trans (by first | exact kS | exact kD) hKM; have kMw : Kept w wM := Kept.trans HKX.out kM; have t0 := (HX0.out _ kM).cell 0) | (go_at_call 25; refine (HSp.out _ _ _ _ _ _ _ (by first | exact hRS.ints | exact (hRS.kept hKM).ints) (by first | exact ⟨hRM.ints, hRN.ints, hgl, hbl, Nat.le_refl _, Nat.le_refl _⟩ | exact ⟨(hRM.kept hKS).ints, (hRN.kept hKS).ints, hgl, hbl, Nat.le_refl _, Nat.le_refl _⟩)).mono ?_; rintro e wZ ⟨rfl, hKZ⟩))
    all_goals (go_wp2_with fail; go_meet; first | exact ⟨rfl, Kept.trans (Kept.trans (Kept.trans (Below.refl _ w2).drew hKS) hKM) hKZ⟩ | exact ⟨rfl, Kept.trans (Kept.trans (Kept.trans (Below.refl _ w2).drew hKM) hKS) hKZ⟩)
  case rest =>
  obtain ⟨rfl, hKc⟩ := hcut
  have k3 : Kept WX wc := Kept.trans k2 hKc
  have k3w : Kept w wc := Kept.trans HKX.out k3
  have s0 := (HX0.out _ k3).cell 0
  go_wp2_with fail
  refine (toSlab_ok _ ao0 cap0 zs0 (HIs.out _ k3w) hl).mono ?_
  rintro e w4 ⟨g4, rfl, hg4, hR4, hK4⟩
  have ka : Kept w4 (w4.alloc (.cells #[.slice (some ⟨g4, 0, none⟩) zs0.length zs0.length] 30)) := Kept.alloc (Below.refl _ w4) _
  have k4 : Kept WX (w4.alloc (.cells #[.slice (some ⟨g4, 0, none⟩) zs0.length zs0.length] 30)) := (k3.trans hK4).trans ka
  have x4 := Cells.new w4 30 #[.slice (some ⟨g4, 0, none⟩) zs0.length zs0.length]
  have r4 := hR4.kept ka
  have c0 := (HX1.out _ k4).cell 0
  have c1 := (HX1.out _ k4).cell 1
  have c2 := (HX1.out _ k4).cell 2
  have c3 := (HX1.out _ k4).cell 3
  clear s0 hR4
  go_wp2_with fail
  refine (toMarker_ok _ ga1 ba1 gc1 bc1 ph1 at1 gs1 bs1 (HIg.out _ (Kept.trans HKX.out k4)) (HIb.out _ (Kept.trans HKX.out k4)) hgl hbl).mono ?_
  rintro e w5 ⟨gM, gN, rfl, hgM, hgN, hRM, hRN, hK5⟩
  clear c0 c1 c2 c3
  have kb : Kept w5 (w5.alloc (.cells #[.int .i64 ph1, .slice (some ⟨gM, 0, none⟩) gs1.length gs1.length, .slice (some ⟨gN, 0, none⟩) bs1.length bs1.length, .int .i64 at1] 32)) := Kept.alloc (Below.refl _ w5) _
  have x5 := Cells.new w5 32 #[.int .i64 ph1, .slice (some ⟨gM, 0, none⟩) gs1.length gs1.length, .slice (some ⟨gN, 0, none⟩) bs1.length bs1.length, .int .i64 at1]
  have y5 := (x4.kept hK5).kept kb
  have r5 := (r4.kept hK5).kept kb
  have rM := hRM.kept kb
  have rN := hRN.kept kb
  have k5 := (k4.trans hK5).trans kb
  have a0 := y5.cell 0
  have a1 := x5.cell 0
  have a2 := x5.cell 1
  have a3 := x5.cell 2
  have a4 := x5.cell 3
  go_wp2_with fail
  refine (HIm.out _ _ _ _ _ _ _ r5.ints ⟨rM.ints, rN.ints, hgl, hbl, Nat.le_refl _, Nat.le_refl _⟩ (by intro h; cases h)).mono ?_
  rintro e w6 ⟨rfl, hK6⟩
  clear a0 a1 a2 a3 a4
  have k6 := k5.trans hK6
  have y6 := y5.kept hK6
  have x6 := x5.kept hK6
  have r6 := r5.kept hK6
  have rM6 := rM.kept hK6
  have rN6 := rN.kept hK6
  have hrr : (r != r) = false := by simp
  have hrr2 : (r == r) = true := by simp
  go_upto_region 14 with (fail)
  go_cut [39] from 35 to 38 (fun s wx => s = .bool false ∧ Kept w6 wx)
  case first =>
    have kD : Kept WX w6.drew := k6.drew
    have t0 := (HX0.out _ kD).cell 0
    have yD := y6.kept (Below.refl _ w6).drew
    have y0 := yD.cell 0
    have rD := r6.kept (Below.refl _ w6).drew
    go_region_with (first | (go_at_call 10; refine (toSlab_ok _ ao0 cap0 zs0 (HIs.out _ (Kept.trans HKX.out kD)) hl).mono ?_; rintro e w7 ⟨g7, rfl, hg7, hR7, hK7⟩; have y7 := (yD.kept hK7).cell 0; have r7 := rD.kept hK7) | (go_at_call 13; refine (eqSlab_ok _ _ _ _ _ zs0 r7.ints hR7.ints (by omega)).mono ?_; rintro e w8 ⟨rfl, hK8⟩))
    all_goals (go_wp2_with fail; go_meet; exact ⟨rfl, Kept.trans (Kept.trans (Below.refl _ w6).drew hK7) hK8⟩)
  case rest =>
  obtain ⟨rfl, hKd⟩ := hcut
  have k7 := k6.trans hKd
  have x7 := x6.kept hKd
  have rM7 := rM6.kept hKd
  have rN7 := rN6.kept hKd
  clear y6 r6 rM6 rN6 x6 y5 x5 r5 rM rN
  go_upto_region 16 with (fail)
  go_cut [44] from 40 to 43 (fun s wx => s = .bool false ∧ Kept wc wx)
  case first =>
    have kD : Kept WX wc.drew := k7.drew
    have c0 := (HX1.out _ kD).cell 0
    have c1 := (HX1.out _ kD).cell 1
    have c2 := (HX1.out _ kD).cell 2
    have c3 := (HX1.out _ kD).cell 3
    have xD := x7.kept (Below.refl _ wc).drew
    have e0 := xD.cell 0
    have e1 := xD.cell 1
    have e2 := xD.cell 2
    have e3 := xD.cell 3
    have rMD := rM7.kept (Below.refl _ wc).drew
    have rND := rN7.kept (Below.refl _ wc).drew
    go_region_with (first | (go_at_call 11; refine (toMarker_ok _ ga1 ba1 gc1 bc1 ph1 at1 gs1 bs1 (HIg.out _ (Kept.trans HKX.out kD)) (HIb.out _ (Kept.trans HKX.out kD)) hgl hbl).mono ?_; rintro e w8 ⟨gP, gQ, rfl, hgP, hgQ, hRP, hRQ, hK8⟩; have xE := xD.kept hK8; have i0 := xE.cell 0; have i1 := xE.cell 1; have i2 := xE.cell 2; have i3 := xE.cell 3; have rM8 := rMD.kept hK8; have rN8 := rND.kept hK8) | (go_at_call 14; refine (eqMarker_ok _ _ _ _ _ _ _ _ _ ph1 at1 gs1 bs1 rM8.ints hRP.ints rN8.ints hRQ.ints (by omega) (by omega)).mono ?_; rintro e w9 ⟨rfl, hK9⟩))
    all_goals (go_wp2_with fail; go_meet; exact ⟨rfl, Kept.trans (Kept.trans (Below.refl _ _).drew hK8) hK9⟩)
  case rest =>
  obtain ⟨rfl, hKe⟩ := hcut
  go_wp2_with fail
  go_ret
  exact ⟨rfl, Kept.trans HKX.out (Kept.trans k7 hKe)⟩

set_option maxRecDepth 100000 in
theorem lifted (os : Os) (started : os.Started) (H : Type) (enc : TypeId × Value → H) :
    ReturnsInHanded {} Try.checked os 6 .any (Rows.fnExactTriOkSpec.pre6 enc Try.prog Try.f6 Rows.fnExactTriOkRow.domain false) (Rows.fnExactTriOkSpec.post enc Try.prog Try.f6 false true false false) := by
  refine returnsInHanded_of_change (C := Try.checked) own started (by kernel_rfl) Try.func6
    (ChangeSpec.witness6 (enc := enc) (C := Try.checked) false ⟨#[], #[.agg #[.slice none 0 0], .agg #[.int .i64 0, .slice none 0 0, .slice none 0 0, .int .i64 0]], []⟩ 8 (by kernel_rfl) (by kernel_rfl) (by kernel_rfl) (by kernel_rfl)) ?_
  intro W base args ds gs before hval0 hW hcnd _
  have hval : ∀ (j : Nat) t v, Try.f6.params[j]? = some t → args[j]? = some v → Value.okWide Try.prog W .any base t v := hval0
  have hW' := hW
  obtain ⟨p, q, hA0, hV, rfl, hfz, hnd⟩ := hW
  have hA : DataW.TrodAll enc Try.prog W 0 (fun _ => true) true Try.f6.params.toList args.toList ds p := hA0
  rw [Try.params6] at hA hval
  obtain ⟨v0, vs0, d0, ds0, p0, q0, hargs0, rfl, rfl, h0, r0⟩ := trodAll_cons hA
  obtain ⟨v1, vs1, d1, ds1, p1, q1, hargs1, rfl, rfl, h1, r1⟩ := trodAll_cons r0
  obtain ⟨rfl, rfl, rfl⟩ := trodAll_nil r1
  obtain rfl : args = #[v0, v1] := by cases args; simp_all
  obtain ⟨rfl, rfl⟩ := trodVars_none hV
  clear hA0 hval0
  simp only [List.append_nil] at hW'
  have hlt0 : ∀ x ∈ p0, x.block < W.heap.size := fun x hx => by simpa using hW'.lt x (by simp [hx])
  have hlt1 : ∀ x ∈ p1, x.block < W.heap.size := fun x hx => by simpa using hW'.lt x (by simp [hx])
  obtain ⟨ao0, cap0, zs0, rfl, hc0, hm0, hI0⟩ := open_slab (hval 0 24 v0 rfl rfl) h0
  obtain ⟨ph1, at1, ga1, ba1, gc1, bc1, gs1, bs1, rfl, hg1, hb1, wp1, wa1⟩ := open_marker (hval 1 26 v1 rfl rfl) h1
  refine (walk W ao0 cap0 zs0 hc0 hm0 hI0 ph1 at1 ga1 ba1 gc1 bc1 gs1 bs1 hg1 hb1 wp1 wa1).mono fun e W' ⟨he, hk⟩ => ?_
  subst he
  refine ⟨_, rfl, _, _, _, [], p0 ++ (p1 ++ []), [], hW', ?_, ?_, rfl, hk.frame _, fun h => by cases h⟩
  · exact trodAll_cons_mk (shut_bool Try.underlying4 _) trodAll_mk0
  · exact (trodAll_cons_mk (Below.trod laid (by kernel_rfl) (of_decide_eq_true (by kernel_rfl)) h0 hk hlt0) (trodAll_cons_mk (Below.trod laid (by kernel_rfl) (of_decide_eq_true (by kernel_rfl)) h1 hk hlt1) trodAll_mk0))

theorem over : Rows.fnExactTriOkRow.holds Try.pinned (OpenSpec.ofChange Rows.fnExactTriOkSpec) :=
  OpenClaim.holds_of_wide 6 Try.f6 rfl rfl rfl rfl rfl rfl rfl ⟨rfl, rfl, rfl, rfl, rfl⟩ rfl rfl rfl rfl rfl (by kernel_rfl) Try.func6 (by kernel_rfl)
    (of_decide_eq_true (by kernel_rfl)) (by unfold Func.isWrapper; first | (rw [if_pos (by decide +kernel)]; kernel_rfl) | (rw [if_neg (by decide +kernel)]; exact ⟨rfl, rfl⟩))
    (fun os started H enc _ => lifted os started H enc)

theorem proved : Rows.FnExactTriOkSaid :=
  over
#print axioms proved
end Go.Proofs.Ytjgafhmgmddgdaa.fnExactTriOk
