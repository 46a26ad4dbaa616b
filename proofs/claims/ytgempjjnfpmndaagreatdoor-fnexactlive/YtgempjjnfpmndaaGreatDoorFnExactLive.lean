/-
  The law FnExactLive is proved: at every machine impl.Live answers as its model, and it writes nothing into it; the program's table opForms lies as its text lays it.
-/
import Derived.Test.YtgempjjnfpmndaaGreatDoorRows
import Derived.Test.YtgempjjnfpmndaaGreatDoorCards
import Derived.Test.YtgempjjnfpmndaaGreatDoorTie
import Derived.ChangeVars
import Derived.Stop.Joined
import Derived.SevenTiedAt
import Derived.OpenVars
import Derived.Deep.RegionWith
import Derived.Test.YtgempjjnfpmndaaGreatDoorDoorF
import Derived.Test.YtgempjjnfpmndaaGreatDoorGrpMp
import Derived.Test.YtgempjjnfpmndaaGreatDoorGrpMu
import Derived.Test.YtgempjjnfpmndaaGreatDoorGrpNu
import Derived.Test.YtgempjjnfpmndaaGreatDoorGrpMi
namespace Go.Proofs.YtgempjjnfpmndaaGreatDoor.fnExactLive
open Go.ChangeShapes Go.WideShapes Go.ChangeAt Go.RowKit
set_option linter.unusedVariables false

theorem own : ownKnob Tryz.prog.godebug = none := by kernel_rfl

/-- What the listed variable holds. -/
def EnvV (w : World) : Prop := Forms w
theorem env_of_laid {W : World} (h : laidMetH Tryz.prog Rows.fnExactLiveRow.laid W) : EnvV W := by
  have h' : laidMet Tryz.prog Rows.fnExactLiveRow.laid W := h
  obtain ⟨ps, ⟨g4, t4, cs4, f4, p4, q4, hg4, ht4, hv4, hd4, _, _⟩, _⟩ := h'
  exact forms_of hg4 ht4 hv4 hd4
noncomputable def laidWorld (os : Os) : World :=
  { World.holding Tryz.prog os ⟨#[], #[], []⟩ with heap := (World.holding Tryz.prog os ⟨#[], #[], []⟩).heap.modify 0 (layF Rows.laid_loop_example_g00242_impl_opForms) }
set_option maxRecDepth 100000 in
theorem laidWorld_met (os : Os) (args : Array Value) : laidMetH Tryz.prog Rows.fnExactLiveRow.laid ((laidWorld os).forCall (fun _ _ => 0) ⟨#[], args, []⟩).memory :=
  laidMetH_of_parts (laidMet_of_run' 8 (by kernel_rfl) (by kernel_rfl)) (by kernel_rfl)
set_option maxHeartbeats 8000000 in
set_option maxRecDepth 100000 in
theorem walk (w : World) (hE : EnvV w) (hh0 : MchH) (m0 : Mch) (hF0 : MchFit m0) (hA0 : MchA w hh0 m0) (hW0 : MchWf hh0 m0) :
    Calls Tryz.prog 3 #[.agg (mchC hh0 m0)] w fun e w' => e = .returned (.bool true) ∧ Kept w w' := by
  have hFm : Forms w := hE
  obtain ⟨WX, hWX⟩ : ∃ x, w.alloc (.cells (mchC hh0 m0) 33) = x := ⟨_, rfl⟩
  have HB : Hid (∀ u, Kept WX u → Cells u w.heap.size 33 (mchC hh0 m0)) := fun u hu => (hWX ▸ Cells.new w 33 (mchC hh0 m0) : Cells WX _ _ _).kept hu
  have k0 : Kept w WX := hWX ▸ Kept.alloc (Below.refl _ _) _
  have HK0 : Hid (Kept w WX) := k0
  have hSz := szMachine_ok WX hh0 m0 (hA0.kept k0) hF0
  have HTo : Hid (MchLe m0 → ∀ u, Kept WX u → Calls Tryz.prog 8 #[.agg (mchC hh0 m0)] u fun e w' => ∃ h', e = .returned (.agg (mchC h' m0)) ∧ MchA w' h' m0 ∧ MchWf h' m0 ∧ (h'.ga = none → h'.gc = 0) ∧ h'.ka ≠ none ∧ Kept u w') := fun hL u hu => by
    refine (toMachine_ok u hh0 m0 (hA0.kept (k0.trans hu)) hL).mono ?_
    rintro e w' ⟨g0, g1, g2, g3, g4, g5, g6, g7, rfl, hO, hk⟩
    exact ⟨_, rfl, hO.all, ⟨Nat.le_refl _, Nat.le_refl _, Nat.le_refl _, Nat.le_refl _, hW0.ph, hW0.at', hW0.cd, hW0.f⟩, (fun h => by cases h), (fun h => by cases h), hk⟩
  obtain ⟨D, hD⟩ : ∃ D, ((liveN m0 : Nat) : Int) = D := ⟨_, rfl⟩
  have HSp : Hid (MchLe m0 → ∀ u h', MchA u h' m0 → MchWf h' m0 → h'.ka ≠ none → Calls Tryz.prog 7 #[.agg (mchC h' m0)] u fun e w' => e = .returned (.int .i64 D) ∧ Kept u w') := fun hL u h' h1 h2 h3 => hD ▸ spec_Live_ok u h' m0 h1 hL h2 h3
  have HIm : Hid (MchLe m0 → ∀ u h', Kept WX u → MchA u h' m0 → MchWf h' m0 → (h'.ga = none → h'.gc = 0) → Calls Tryz.prog 9 #[.agg (mchC h' m0)] u fun e w' => e = .returned (.int .i64 D) ∧ Kept u w') := fun hL u h' hu h1 h2 h3 => hD ▸ impl_Live_ok u h' m0 h1 hL h2 h3 (hFm.kept (k0.trans hu))
  have hx : (D != D) = false := by simp
  have a0 := (HB.out _ (Below.refl _ _)).m0
  have a1 := (HB.out _ (Below.refl _ _)).m1
  have a2 := (HB.out _ (Below.refl _ _)).m2
  have a3 := (HB.out _ (Below.refl _ _)).m3
  have a4 := (HB.out _ (Below.refl _ _)).m4
  have a5 := (HB.out _ (Below.refl _ _)).m5
  have a6 := (HB.out _ (Below.refl _ _)).m6
  have a7 := (HB.out _ (Below.refl _ _)).m7
  have a8 := (HB.out _ (Below.refl _ _)).m8
  have a9 := (HB.out _ (Below.refl _ _)).m9
  have a10 := (HB.out _ (Below.refl _ _)).m10
  have a11 := (HB.out _ (Below.refl _ _)).m11
  clear hD hA0 hF0 hW0 hFm hE k0
  go_enter Tryz.func3, Tryz.ntmps3
  go_upto_region 2 with (fail)
  try simp only [hWX]
  clear hWX
  go_wp2_with fail
  refine hSz.mono ?_
  rintro e w1 ⟨⟨r, rfl, hr⟩, k1⟩
  clear a0 a1 a2 a3 a4 a5 a6 a7 a8 a9 a10 a11
  rcases hr with ⟨hd, hLe⟩ | rfl
  rotate_left
  · go_wp2_with fail
    go_ret
    exact ⟨rfl, Kept.trans HK0.out k1⟩
  have HLe : Hid _ := hLe
  have a0 := (HB.out _ k1).m0
  have a1 := (HB.out _ k1).m1
  have a2 := (HB.out _ k1).m2
  have a3 := (HB.out _ k1).m3
  have a4 := (HB.out _ k1).m4
  have a5 := (HB.out _ k1).m5
  have a6 := (HB.out _ k1).m6
  have a7 := (HB.out _ k1).m7
  have a8 := (HB.out _ k1).m8
  have a9 := (HB.out _ k1).m9
  have a10 := (HB.out _ k1).m10
  have a11 := (HB.out _ k1).m11
  have hTo := HTo.out HLe.out _ k1
  clear hLe hSz
  go_wp2_with fail
  refine hTo.mono ?_
  rintro e w2 ⟨h2, rfl, A2, F2, G2, N2, k2'⟩
  have hSp := HSp.out HLe.out _ _ A2 F2 N2
  have k2 := k1.trans k2'
  clear hTo k2' A2 F2 G2 N2 k1 a0 a1 a2 a3 a4 a5 a6 a7 a8 a9 a10 a11
  go_wp2_with fail
  refine hSp.mono ?_
  rintro e w3 ⟨rfl, k3'⟩
  have k3 := k2.trans k3'
  clear hSp k2 k3'
  have a0 := (HB.out _ k3).m0
  have a1 := (HB.out _ k3).m1
  have a2 := (HB.out _ k3).m2
  have a3 := (HB.out _ k3).m3
  have a4 := (HB.out _ k3).m4
  have a5 := (HB.out _ k3).m5
  have a6 := (HB.out _ k3).m6
  have a7 := (HB.out _ k3).m7
  have a8 := (HB.out _ k3).m8
  have a9 := (HB.out _ k3).m9
  have a10 := (HB.out _ k3).m10
  have a11 := (HB.out _ k3).m11
  have hTo := HTo.out HLe.out _ k3
  go_wp2_with fail
  refine hTo.mono ?_
  rintro e w4 ⟨h4, rfl, A4, F4, G4, N4, k4'⟩
  have k4 := k3.trans k4'
  clear hTo k3 k4' a0 a1 a2 a3 a4 a5 a6 a7 a8 a9 a10 a11
  obtain ⟨WF, hWF⟩ : ∃ x, w4.alloc (.cells (mchC h4 m0) 43) = x := ⟨_, rfl⟩
  have XB : Hid (∀ u, Kept WF u → Cells u w4.heap.size 43 (mchC h4 m0)) := fun u hu => (hWF ▸ Cells.new w4 43 (mchC h4 m0) : Cells WF _ _ _).kept hu
  have kF : Kept w4 WF := hWF ▸ Kept.alloc (Below.refl _ _) _
  have KF : Hid (Kept WX WF) := k4.trans kF
  have AF : Hid (MchA WF h4 m0) := A4.kept kF
  have hIm := HIm.out HLe.out _ _ KF.out AF.out F4 G4
  have x0 := (XB.out _ (Below.refl _ _)).m0
  have x1 := (XB.out _ (Below.refl _ _)).m1
  have x2 := (XB.out _ (Below.refl _ _)).m2
  have x3 := (XB.out _ (Below.refl _ _)).m3
  have x4 := (XB.out _ (Below.refl _ _)).m4
  have x5 := (XB.out _ (Below.refl _ _)).m5
  have x6 := (XB.out _ (Below.refl _ _)).m6
  have x7 := (XB.out _ (Below.refl _ _)).m7
  have x8 := (XB.out _ (Below.refl _ _)).m8
  have x9 := (XB.out _ (Below.refl _ _)).m9
  have x10 := (XB.out _ (Below.refl _ _)).m10
  have x11 := (XB.out _ (Below.refl _ _)).m11
  clear kF k4 A4 F4 G4 N4
  go_upto_region 7 with (fail)
  try simp only [hWF]
  clear hWF
  go_wp2_with fail
  refine hIm.mono ?_
  rintro e w5 ⟨rfl, k5⟩
  clear hIm x0 x1 x2 x3 x4 x5 x6 x7 x8 x9 x10 x11
  have kd : Kept w5 w5.drew := (Below.refl _ w5).drew
  have KD : Hid (Kept WF w5.drew) := k5.trans kd
  have KW : Hid (Kept WX w5.drew) := KF.out.trans KD.out
  have hTo := HTo.out HLe.out _ KW.out
  have AD : Hid (MchA w5.drew h4 m0) := MchA.kept AF.out KD.out
  have HEq : Hid (∀ u h', Kept w5.drew u → MchA u h' m0 → Calls Tryz.prog 10 #[.agg (mchC h4 m0), .agg (mchC h' m0)] u fun e w' => e = .returned (.bool true) ∧ Kept u w') := fun u h' hu h1 => eqMachine_ok u h4 h' m0 (MchA.kept AD.out hu) h1 HLe.out
  obtain ⟨B4, hB4⟩ : ∃ x, w4.heap.size = x := ⟨_, rfl⟩
  rw [hB4] at XB
  try simp only [hB4]
  have a0 := (HB.out _ KW.out).m0
  have a1 := (HB.out _ KW.out).m1
  have a2 := (HB.out _ KW.out).m2
  have a3 := (HB.out _ KW.out).m3
  have a4 := (HB.out _ KW.out).m4
  have a5 := (HB.out _ KW.out).m5
  have a6 := (HB.out _ KW.out).m6
  have a7 := (HB.out _ KW.out).m7
  have a8 := (HB.out _ KW.out).m8
  have a9 := (HB.out _ KW.out).m9
  have a10 := (HB.out _ KW.out).m10
  have a11 := (HB.out _ KW.out).m11
  have x0 := (XB.out _ KD.out).m0
  have x1 := (XB.out _ KD.out).m1
  have x2 := (XB.out _ KD.out).m2
  have x3 := (XB.out _ KD.out).m3
  have x4 := (XB.out _ KD.out).m4
  have x5 := (XB.out _ KD.out).m5
  have x6 := (XB.out _ KD.out).m6
  have x7 := (XB.out _ KD.out).m7
  have x8 := (XB.out _ KD.out).m8
  have x9 := (XB.out _ KD.out).m9
  have x10 := (XB.out _ KD.out).m10
  have x11 := (XB.out _ KD.out).m11
  clear hB4 k5 kd HTo HSp HIm
  go_upto_region 10 with (fail)
  go_region_with (first
    | (have g := k6; go_at_call 10; refine (HEq.out _ _ k6 A6).mono ?_; rintro e w7 ⟨rfl, k7⟩)
    | (go_at_call 8; refine hTo.mono ?_; rintro e w6 ⟨h6, rfl, A6, _, _, _, k6⟩; have x0 := (XB.out _ (KD.out.trans k6)).m0; have x1 := (XB.out _ (KD.out.trans k6)).m1; have x2 := (XB.out _ (KD.out.trans k6)).m2; have x3 := (XB.out _ (KD.out.trans k6)).m3; have x4 := (XB.out _ (KD.out.trans k6)).m4; have x5 := (XB.out _ (KD.out.trans k6)).m5; have x6 := (XB.out _ (KD.out.trans k6)).m6; have x7 := (XB.out _ (KD.out.trans k6)).m7; have x8 := (XB.out _ (KD.out.trans k6)).m8; have x9 := (XB.out _ (KD.out.trans k6)).m9; have x10 := (XB.out _ (KD.out.trans k6)).m10; have x11 := (XB.out _ (KD.out.trans k6)).m11))
  all_goals (
    go_wp2_with fail
    go_ret
    exact ⟨rfl, Kept.trans HK0.out (Kept.trans KW.out (k6.trans k7))⟩)

set_option maxRecDepth 100000 in
theorem lifted (os : Os) (started : os.Started) (H : Type) (enc : TypeId × Value → H) :
    ReturnsInHanded {} Tryz.checked os 3 .any (fun w args => (Rows.fnExactLiveSpec.pre enc Tryz.prog Tryz.f3 [] false w args ∧ laidMetH Tryz.prog Rows.fnExactLiveRow.laid w) ∧ sizedMet enc Tryz.prog Tryz.f3 (OpenSpec.ofChange Rows.fnExactLiveSpec) false w args)
      (Rows.fnExactLiveSpec.post enc Tryz.prog Tryz.f3 false true false false) := by
  refine returnsInHanded_of_change_and (C := Tryz.checked) (X := fun w _ => laidMetH Tryz.prog Rows.fnExactLiveRow.laid w) (fun _ _ _ hh h => h.of_heap hh) own started (by kernel_rfl) Tryz.func3
    (ChangeSpec.witness_at (enc := enc) (C := Tryz.checked) (os := os) (X := fun w _ => laidMetH Tryz.prog Rows.fnExactLiveRow.laid w) false (laidWorld os) #[.agg #[.slice none 0 0, .slice none 0 0, .slice none 0 0, .int .i64 0, .slice none 0 0, .slice none 0 0, .int .i64 0, .slice none 0 0, .slice none 0 0, .slice none 0 0, .bool false, .int .i64 0]] 8 rfl (by kernel_rfl) (by kernel_rfl) (by kernel_rfl) (by kernel_rfl) (by kernel_rfl) (laidWorld_met os _)) ?_
  intro W base args ds gs before hval0 hW _ _ hL _
  have hval : ∀ (j : Nat) t v, Tryz.f3.params[j]? = some t → args[j]? = some v → Value.okWide Tryz.prog W .any base t v := hval0
  have hW' := hW
  obtain ⟨p, q, hA0, hV, rfl, hfz, hnd⟩ := hW
  have hA : DataW.TrodAll enc Tryz.prog W 0 (fun _ => true) true Tryz.f3.params.toList args.toList ds p := hA0
  rw [Tryz.params3] at hA hval
  obtain ⟨v0, vs0, d0, ds0, p0, q0, hargs0, rfl, rfl, h0, r0⟩ := trodAll_cons hA
  obtain ⟨rfl, rfl, rfl⟩ := trodAll_nil r0
  obtain rfl : args = #[v0] := by cases args; simp_all
  obtain ⟨dv, rfl⟩ : ∃ d, gs = [d] := by
    obtain ⟨_, _, _, _, d, _, e, _⟩ := trodVars_one hV
    exact ⟨d, e⟩
  clear hA0 hval0
  have hlt0 : ∀ x ∈ p0, x.block < W.heap.size := fun x hx => by simpa using hW'.lt x (by simp [hx])
  obtain ⟨hh0, m0, rfl, hF0, hA0, hW0⟩ := open_machine (hval 0 33 v0 rfl rfl) h0
  refine (walk W (env_of_laid hL) hh0 m0 hF0 hA0 hW0).mono fun e W' ⟨he, hk⟩ => ?_
  subst he
  refine ⟨_, rfl, _, _, _, [], p0 ++ [], q, hW', ?_, ?_, Below.trodVars laid hk (by kernel_rfl) hV, hk.frame _, fun h => by cases h⟩
  · exact trodAll_cons_mk (shut_bool Tryz.underlying4 _) trodAll_mk0
  · exact (trodAll_cons_mk (Below.trod laid (by kernel_rfl) (of_decide_eq_true (by kernel_rfl)) h0 hk hlt0) trodAll_mk0)

theorem over : Rows.fnExactLiveRow.holds Tryz.pinned (OpenSpec.ofChange Rows.fnExactLiveSpec) :=
  OpenClaim.holds_of_wide 3 Tryz.f3 rfl rfl rfl rfl rfl rfl rfl ⟨rfl, rfl, rfl, rfl, rfl⟩ rfl rfl rfl rfl rfl (by kernel_rfl) Tryz.func3 (by kernel_rfl)
    (of_decide_eq_true (by kernel_rfl)) (by unfold Func.isWrapper; first | (rw [if_pos (by decide +kernel)]; kernel_rfl) | (rw [if_neg (by decide +kernel)]; exact ⟨rfl, rfl⟩))
    (fun os started H enc _ => lifted os started H enc)

theorem proved : Rows.FnExactLiveCardSaid :=
  Claim7.holds_tied_plain_at .later [] [.data] true (true, Rows.fnExactLiveCard.stood.harness.2) Rows.fnExactLiveCard.stood.looks
    over (fun _ h => by cases h) (by kernel_rfl) (fun _ h => by cases h) fnExactLive_row_tie rfl ⟨rfl, rfl⟩ (by kernel_rfl) rfl
    (fun f fn hf hfn => by
      obtain rfl : f = 3 := Option.some.inj ((show Tryz.prog.funcNamed Rows.fnExactLiveRow.func = some 3 by kernel_rfl).symm.trans hf) |>.symm
      obtain rfl : fn = Tryz.f3 := (Option.some.inj (Tryz.func3.symm.trans hfn)).symm
      exact ⟨by kernel_rfl, fun j t ht => by
        rw [Tryz.params3] at ht
        have hm : t ∈ [33] := by
          have := List.mem_of_getElem? (l := [33]) (i := j) (a := t) (by simpa using ht)
          exact this
        have hall : ∀ t ∈ [33], Tryz.prog.wantsStandIn t = false := by
          intro t ht
          simp only [List.mem_cons, List.not_mem_nil, or_false] at ht
          rcases ht with rfl <;> kernel_rfl
        exact hall t hm⟩)
    (by kernel_rfl)
#print axioms proved
end Go.Proofs.YtgempjjnfpmndaaGreatDoor.fnExactLive
