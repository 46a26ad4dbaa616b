/-
  The law FnExactSlabText is proved: at every slab impl.SlabText answers as its model, and it writes nothing into it; three tables of the library lie as their text lays them.
-/
import Derived.Test.YthmabhglmgnamaaDoorRows
import Derived.Test.YthmabhglmgnamaaDoorFrame
import Derived.Test.YthmabhglmgnamaaDoorDoorY
import Derived.Test.YthmabhglmgnamaaDoorCards
import Derived.Test.YthmabhglmgnamaaDoorTie
import Derived.ChangeVars
import Derived.Stop.Joined
import Derived.SevenTiedAt
import Derived.Test.YthmabhglmgnamaaDoorSltA
import Derived.Test.YthmabhglmgnamaaDoorHelpL
import Derived.Deep.RegionWith
import Derived.Deep.CutRange
namespace Go.Proofs.YthmabhglmgnamaaDoor.fnExactSlabText
open Go.ChangeShapes Go.WideShapes Go.ChangeAt Go.RowKit
set_option linter.unusedVariables false

theorem own : ownKnob Tryd.prog.godebug = none := by kernel_rfl

set_option maxHeartbeats 8000000 in
set_option maxRecDepth 100000 in
theorem walk (w : World) (hT : Tab w) (ao0 : Option Addr) (cap0 : Nat) (zs0 : List Int) (hc0 : zs0.length ≤ cap0) (hm0 : cap0 ≤ maxLen) (hI0 : Ints w ao0 zs0) :
    Calls Tryd.prog 4 #[.agg #[.slice ao0 zs0.length cap0]] w fun e w' => e = .returned (.bool true) ∧ Kept w w' := by
  have k0 : Kept w (w.alloc (.cells #[.slice ao0 zs0.length cap0] 35)) := Kept.alloc (Below.refl _ _) _
  have b0 := Cells.new w 35 #[.slice ao0 zs0.length cap0]
  by_cases hb : 1048576 < zs0.length
  · go_enter Tryd.func4, Tryd.ntmps4
    go_wp2_with (go_at_call 11; refine (szSlab_big _ ao0 cap0 zs0.length hb (by unfold maxLen at hm0; omega)).mono ?_; rintro e w1 ⟨rfl, hK1⟩)
    go_ret
    exact ⟨rfl, (Kept.alloc (Below.refl _ _) _).trans hK1⟩
  · have hl : zs0.length ≤ 1048576 := by omega
    have hL : zs0.length * 8 ≤ 140737488351232 := by omega
    have hSz := szSlab_ok (w.alloc (.cells #[.slice ao0 zs0.length cap0] 35)) ao0 cap0 zs0.length hl
    obtain ⟨r, hr⟩ : ∃ r, (1048576 : Int) - (zs0.length : Int) = r := ⟨_, rfl⟩
    have hd : decide (r < 0) = false := decide_eq_false (by omega)
    rw [hr] at hSz
    have HTo : Hid (∀ u, Kept w u → Calls Tryd.prog 13 #[.agg #[.slice ao0 zs0.length cap0]] u fun e w' => ∃ g, e = .returned (.agg #[.slice (some ⟨g, 0, none⟩) zs0.length zs0.length]) ∧ Ints w' (some ⟨g, 0, none⟩) zs0 ∧ Kept u w') := fun u hu => (toSlab_ok u ao0 cap0 zs0 (hI0.kept hu) hl).mono (fun e w' ⟨g, h1, h2, h3, h4⟩ => ⟨g, h1, h3.ints, h4⟩)
    obtain ⟨D, hD⟩ : ∃ D, slabT zs0 = D := ⟨_, rfl⟩
    have HSp : Hid (∀ u ao, Ints u ao zs0 → Calls Tryd.prog 12 #[.agg #[.slice ao zs0.length zs0.length]] u fun e w' => e = .returned (.string D) ∧ Kept u w') := fun u ao h => by rw [← hD]; exact spec_SlabText_ok u ao _ zs0 h hL
    have HIm : Hid (∀ u ao, Kept w u → Ints u ao zs0 → Calls Tryd.prog 14 #[.agg #[.slice ao zs0.length zs0.length]] u fun e w' => e = .returned (.string D) ∧ Kept u w') := fun u ao hu h => by rw [← hD]; exact impl_SlabText_ok u ao _ zs0 h hL (hT.kept hu)
    have HEq : Hid (∀ u ao bo, Ints u ao zs0 → Ints u bo zs0 → Calls Tryd.prog 15 #[.agg #[.slice ao zs0.length zs0.length], .agg #[.slice bo zs0.length zs0.length]] u fun e w' => e = .returned (.bool true) ∧ Kept u w') := fun u ao bo h h' => eqSlab_ok u ao bo _ _ zs0 h h' (by omega)
    have HB : Hid (∀ u, Kept (w.alloc (.cells #[.slice ao0 zs0.length cap0] 35)) u → u.cell? ⟨w.heap.size, 0, none⟩ = some (.slice ao0 zs0.length cap0)) := fun u hu => (b0.kept hu).cell 0
    have hx' : (D.toList != D.toList) = false := by simp
    obtain ⟨L, hLe⟩ : ∃ L, zs0.length = L := ⟨_, rfl⟩
    rw [hLe] at HTo HSp HIm HEq HB hSz
    simp only [hLe]
    rw [hLe] at k0
    clear hr hb hD hI0 hc0 hm0 b0 hl hT hL
    go_enter Tryd.func4, Tryd.ntmps4
    go_upto_region 10 with (first
      | (have g := kq4; go_at_call 14; refine (HIm.out _ _ ((k0.trans kq4).trans (Kept.alloc (Below.refl _ _) _)) (Ints.kept S4 (Kept.alloc (Below.refl _ _) _))).mono ?_; rintro e w5 ⟨rfl, hk5⟩; have k45 : Kept w4 w5 := Kept.trans (Kept.alloc (Below.refl _ _) _) hk5; have x5 := (Cells.new w4 38 #[.slice (some ⟨g4, 0, none⟩) L L]).kept hk5)
      | (have g := kq3; go_at_call 13; refine (HTo.out _ (k0.trans kq3)).mono ?_; rintro e w4 ⟨g4, rfl, S4, hk4⟩; have kq4 := kq3.trans hk4)
      | (have g := kq2; go_at_call 12; refine (HSp.out _ _ S2).mono ?_; rintro e w3 ⟨rfl, hk3⟩; have kq3 := kq2.trans hk3; have cc0 := HB.out _ kq3)
      | (have g := kq1; go_at_call 13; refine (HTo.out _ (k0.trans kq1)).mono ?_; rintro e w2 ⟨g2, rfl, S2, hk2⟩; have kq2 := kq1.trans hk2)
      | (go_at_call 11; refine hSz.mono ?_; rintro e w1 ⟨rfl, kq1⟩; have cc0 := HB.out _ kq1))
    have kq5 := kq4.trans k45
    have kd : Kept w5 w5.drew := (Below.refl _ w5).drew
    have xd := x5.kept kd
    have hTo := HTo.out _ (k0.trans (kq5.trans kd))
    obtain ⟨B5, hB5⟩ : ∃ x, w4.heap.size = x := ⟨_, rfl⟩
    rw [hB5] at x5 xd
    simp only [hB5]
    have a0 := HB.out _ (kq5.trans kd)
    have e0 := xd.cell 0
    have S5 := S4.kept (k45.trans kd)
    have KW := (k0.trans kq5).trans kd
    clear hB5 HTo HSp HIm hSz S2 hk2 hk3 hk4 hk5 kq1 kq2 kq3 cc0
    go_wp2_with fail
    go_region_with (first
      | (have g := k6; go_at_call 15; refine (HEq.out _ _ _ (S5.kept k6) S6).mono ?_; rintro e w7 ⟨rfl, k7⟩)
      | (go_at_call 13; refine hTo.mono ?_; rintro e w6 ⟨g6, rfl, S6, k6⟩; have y6 := xd.kept k6; have e0 := y6.cell 0))
    all_goals (
      go_wp2_with fail
      go_ret
      exact ⟨rfl, (KW.trans k6).trans k7⟩)

set_option maxRecDepth 100000 in
theorem lifted (os : Os) (started : os.Started) (H : Type) (enc : TypeId × Value → H) :
    ReturnsInHanded {} Tryd.checked os 4 .any (fun w args => (Rows.fnExactSlabTextSpec.pre enc Tryd.prog Tryd.f4 [] false w args ∧ laidMetH Tryd.prog Rows.fnExactSlabTextRow.laid w) ∧ sizedMet enc Tryd.prog Tryd.f4 (OpenSpec.ofChange Rows.fnExactSlabTextSpec) false w args)
      (Rows.fnExactSlabTextSpec.post enc Tryd.prog Tryd.f4 false true false false) := by
  refine returnsInHanded_of_change_and (C := Tryd.checked) (X := fun w _ => laidMetH Tryd.prog Rows.fnExactSlabTextRow.laid w) (fun _ _ _ hh h => h.of_heap hh) own started (by kernel_rfl) Tryd.func4
    (ChangeSpec.witness_at (enc := enc) (C := Tryd.checked) (os := os) (X := fun w _ => laidMetH Tryd.prog Rows.fnExactSlabTextRow.laid w) false (laidWorld os) #[.agg #[.slice none 0 0]] 8 rfl (by kernel_rfl) (by kernel_rfl) (by kernel_rfl) (by kernel_rfl) (by kernel_rfl) (laidWorld_met os _)) ?_
  intro W base args ds gs before hval0 hW _ _ hL _
  have hval : ∀ (j : Nat) t v, Tryd.f4.params[j]? = some t → args[j]? = some v → Value.okWide Tryd.prog W .any base t v := hval0
  have hW' := hW
  obtain ⟨p, q, hA0, hV, rfl, hfz, hnd⟩ := hW
  have hA : DataW.TrodAll enc Tryd.prog W 0 (fun _ => true) true Tryd.f4.params.toList args.toList ds p := hA0
  rw [Tryd.params4] at hA hval
  obtain ⟨v0, vs0, d0, ds0, p0, q0, hargs0, rfl, rfl, h0, r0⟩ := trodAll_cons hA
  obtain ⟨rfl, rfl, rfl⟩ := trodAll_nil r0
  obtain rfl : args = #[v0] := by cases args; simp_all
  obtain ⟨rfl, rfl⟩ := trodVars_none hV
  clear hA0 hval0
  simp only [List.append_nil] at hW'
  have hlt0 : ∀ x ∈ p0, x.block < W.heap.size := fun x hx => by simpa using hW'.lt x (by simp [hx])
  obtain ⟨ao0, cap0, zs0, rfl, hc0, hm0, hI0⟩ := open_slab (hval 0 35 v0 rfl rfl) h0
  refine (walk W (tab_of_laid hL) ao0 cap0 zs0 hc0 hm0 hI0).mono fun e W' ⟨he, hk⟩ => ?_
  subst he
  refine ⟨_, rfl, _, _, _, [], p0 ++ [], [], hW', ?_, ?_, rfl, hk.frame _, fun h => by cases h⟩
  · exact trodAll_cons_mk (shut_bool Tryd.underlying4 _) trodAll_mk0
  · exact (trodAll_cons_mk (Below.trod laid (by kernel_rfl) (of_decide_eq_true (by kernel_rfl)) h0 hk hlt0) trodAll_mk0)

theorem over : Rows.fnExactSlabTextRow.holds Tryd.pinned (OpenSpec.ofChange Rows.fnExactSlabTextSpec) :=
  OpenClaim.holds_of_wide 4 Tryd.f4 rfl rfl rfl rfl rfl rfl rfl ⟨rfl, rfl, rfl, rfl, rfl⟩ rfl rfl rfl rfl rfl (by kernel_rfl) Tryd.func4 (by kernel_rfl)
    (of_decide_eq_true (by kernel_rfl)) (by unfold Func.isWrapper; first | (rw [if_pos (by decide +kernel)]; kernel_rfl) | (rw [if_neg (by decide +kernel)]; exact ⟨rfl, rfl⟩))
    (fun os started H enc _ => lifted os started H enc)

theorem proved : Rows.FnExactSlabTextCardSaid :=
  Claim7.holds_tied_plain_at .later [] [.data, .data, .data] true (true, Rows.fnExactSlabTextCard.stood.harness.2) Rows.fnExactSlabTextCard.stood.looks
    over (fun _ h => by cases h) (by kernel_rfl) (fun _ h => by cases h) fnExactSlabText_row_tie rfl ⟨rfl, rfl⟩ (by kernel_rfl) rfl
    (fun f fn hf hfn => by
      obtain rfl : f = 4 := Option.some.inj ((show Tryd.prog.funcNamed Rows.fnExactSlabTextRow.func = some 4 by kernel_rfl).symm.trans hf) |>.symm
      obtain rfl : fn = Tryd.f4 := (Option.some.inj (Tryd.func4.symm.trans hfn)).symm
      exact ⟨by kernel_rfl, fun j t ht => by
        rw [Tryd.params4] at ht
        have hm : t ∈ [35] := by
          have := List.mem_of_getElem? (l := [35]) (i := j) (a := t) (by simpa using ht)
          exact this
        have hall : ∀ t ∈ [35], Tryd.prog.wantsStandIn t = false := by
          intro t ht
          simp only [List.mem_cons, List.not_mem_nil, or_false] at ht
          rcases ht with rfl <;> kernel_rfl
        exact hall t hm⟩)
    (by kernel_rfl)
#print axioms proved
end Go.Proofs.YthmabhglmgnamaaDoor.fnExactSlabText
