/-
  The law FnExactUnitOk is proved: at every unit impl.UnitOk answers as its model, and it writes nothing into it; the program's table opForms lies as its text lays it.
-/
import Derived.Test.YtjagnmajnlcahaaDoorRows
import Derived.Test.YtjagnmajnlcahaaDoorDoorF
import Derived.Test.YtjagnmajnlcahaaDoorCards
import Derived.Test.YtjagnmajnlcahaaDoorTie
import Derived.ChangeVars
import Derived.Stop.Joined
import Derived.SevenTiedAt
import Derived.OpenVars
import Derived.Test.YtjagnmajnlcahaaDoorUntB
import Derived.Test.YtjagnmajnlcahaaDoorUntE
import Derived.Test.YtjagnmajnlcahaaDoorUntU
import Derived.Test.YtjagnmajnlcahaaDoorUntG
import Derived.Test.YtjagnmajnlcahaaDoorUntN
import Derived.Deep.RegionWith
namespace Go.Proofs.YtjagnmajnlcahaaDoor.fnExactUnitOk
open Go.ChangeShapes Go.WideShapes Go.ChangeAt Go.RowKit
set_option linter.unusedVariables false

theorem own : ownKnob Tryd.prog.godebug = none := by kernel_rfl

/-- What the listed variable holds. -/
def EnvV (w : World) : Prop := Forms w
theorem env_of_laid {W : World} (h : laidMetH Tryd.prog Rows.fnExactUnitOkRow.laid W) : EnvV W := by
  have h' : laidMet Tryd.prog Rows.fnExactUnitOkRow.laid W := h
  obtain ⟨ps, ⟨g4, t4, cs4, f4, p4, q4, hg4, ht4, hv4, hd4, _, _⟩, _⟩ := h'
  exact forms_of hg4 ht4 hv4 hd4
noncomputable def laidWorld (os : Os) : World :=
  { World.holding Tryd.prog os ⟨#[], #[], []⟩ with heap := (World.holding Tryd.prog os ⟨#[], #[], []⟩).heap.modify 0 (layF Rows.laid_loop_example_g00242_impl_opForms) }
set_option maxRecDepth 100000 in
theorem laidWorld_met (os : Os) (args : Array Value) : laidMetH Tryd.prog Rows.fnExactUnitOkRow.laid ((laidWorld os).forCall (fun _ _ => 0) ⟨#[], args, []⟩).memory :=
  laidMetH_of_parts (laidMet_of_run' 8 (by kernel_rfl) (by kernel_rfl)) (by kernel_rfl)
set_option maxHeartbeats 8000000 in
set_option maxRecDepth 100000 in
theorem walk (w : World) (hE : EnvV w) (ca0 ta0 : Option Addr) (cc0 tc0 : Nat) (cs0 : List Cod) (ts0 : List ByteArray) (hF0 : FitC cs0) (hC0 : CodsA w ca0 cs0) (hG0 : FitT ts0) (hS0 : StA w ta0 ts0) :
    Calls Tryd.prog 3 #[.agg #[.slice ca0 cs0.length cc0, .slice ta0 ts0.length tc0]] w fun e w' => e = .returned (.bool true) ∧ Kept w w' := by
  have hFm : Forms w := hE
  have k0 : Kept w (w.alloc (.cells #[.slice ca0 cs0.length cc0, .slice ta0 ts0.length tc0] 25)) := Kept.alloc (Below.refl _ _) _
  have hSz := szUnit_ok _ ca0 ta0 cc0 tc0 cs0 ts0 1048576 (hC0.kept k0) hF0 (hS0.kept k0) hG0 (by decide) (by decide)
  have b0 := Cells.new w 25 #[.slice ca0 cs0.length cc0, .slice ta0 ts0.length tc0]
  have HB : Hid (∀ u, Kept (w.alloc (.cells #[.slice ca0 cs0.length cc0, .slice ta0 ts0.length tc0] 25)) u → u.cell? ⟨w.heap.size, 0, none⟩ = some (.slice ca0 cs0.length cc0) ∧ u.cell? ⟨w.heap.size, 1, none⟩ = some (.slice ta0 ts0.length tc0)) := fun u hu => ⟨(b0.kept hu).cell 0, (b0.kept hu).cell 1⟩
  by_cases hb : blkC cs0 + blkT ts0 ≤ 1048576
  · have hl : cs0.length ≤ 1048576 := by unfold blkC at hb; omega
    have hi : ∀ c ∈ cs0, c.ss.length ≤ 1048576 := fun c h => by have := sumC_mem h; unfold blkC at hb; omega
    have ht : ts0.length ≤ 1048576 := by unfold blkT at hb; omega
    have HTo : Hid (∀ u, Kept w u → Calls Tryd.prog 7 #[.agg #[.slice ca0 cs0.length cc0, .slice ta0 ts0.length tc0]] u fun e w' => ∃ g h, e = .returned (.agg #[.slice (some ⟨g, 0, none⟩) cs0.length cs0.length, .slice (some ⟨h, 0, none⟩) ts0.length ts0.length]) ∧ CodsA w' (some ⟨g, 0, none⟩) cs0 ∧ StA w' (some ⟨h, 0, none⟩) ts0 ∧ Kept u w') := fun u hu => toUnit_ok u ca0 ta0 cc0 tc0 cs0 ts0 (hC0.kept hu) (hS0.kept hu) hl hi ht
    have HSp : Hid (∀ u g h, CodsA u (some ⟨g, 0, none⟩) cs0 → StA u (some ⟨h, 0, none⟩) ts0 → Calls Tryd.prog 6 #[.agg #[.slice (some ⟨g, 0, none⟩) cs0.length cs0.length, .slice (some ⟨h, 0, none⟩) ts0.length ts0.length]] u fun e w' => e = .returned (.bool (unitR cs0 ts0)) ∧ Kept u w') := fun u g h h1 h2 => spec_UnitOk_ok u _ _ _ _ cs0 ts0 h1 h2 hl ht hi
    have HIm : Hid (∀ u g h, CodsA u (some ⟨g, 0, none⟩) cs0 → StA u (some ⟨h, 0, none⟩) ts0 → Kept w u → Calls Tryd.prog 8 #[.agg #[.slice (some ⟨g, 0, none⟩) cs0.length cs0.length, .slice (some ⟨h, 0, none⟩) ts0.length ts0.length]] u fun e w' => e = .returned (.bool (unitR cs0 ts0)) ∧ Kept u w') := fun u g h h1 h2 hu => impl_UnitOk_ok u _ _ _ _ cs0 ts0 h1 h2 hl ht (hFm.kept hu)
    have HEq : Hid (∀ u g h g' h', CodsA u (some ⟨g, 0, none⟩) cs0 → StA u (some ⟨h, 0, none⟩) ts0 → CodsA u (some ⟨g', 0, none⟩) cs0 → StA u (some ⟨h', 0, none⟩) ts0 → Calls Tryd.prog 9 #[.agg #[.slice (some ⟨g, 0, none⟩) cs0.length cs0.length, .slice (some ⟨h, 0, none⟩) ts0.length ts0.length], .agg #[.slice (some ⟨g', 0, none⟩) cs0.length cs0.length, .slice (some ⟨h', 0, none⟩) ts0.length ts0.length]] u fun e w' => e = .returned (.bool true) ∧ Kept u w') := fun u g h g' h' h1 h2 h3 h4 => eqUnit_ok u _ _ _ _ _ _ _ _ cs0 ts0 h1 h3 h2 h4 hl hi ht
    obtain ⟨D, hD⟩ : ∃ D, unitR cs0 ts0 = D := ⟨_, rfl⟩
    rw [hD] at HSp HIm
    have hx : (D != D) = false := by simp
    obtain ⟨L, hL⟩ : ∃ L, cs0.length = L := ⟨_, rfl⟩
    obtain ⟨M, hM⟩ : ∃ L, ts0.length = L := ⟨_, rfl⟩
    rw [hL, hM] at HTo HSp HIm HEq HB hSz k0
    simp only [hL, hM]
    clear hb hD hS0 hF0 hC0 hG0 b0 hl hi ht hFm hE
    go_enter Tryd.func3, Tryd.ntmps3
    go_wp2_with fail
    refine hSz.mono ?_
    rintro e w1 ⟨⟨r, rfl, hr⟩, kq1⟩
    obtain ⟨cc0', cc1'⟩ := HB.out _ kq1
    rcases hr with ⟨_, hd, _⟩ | rfl
    · go_upto_region 10 with (first
        | (have g := kq4; go_at_call 8; refine (HIm.out _ _ _ (CodsA.kept C4 (Kept.alloc (Below.refl _ _) _)) (StA.kept S4 (Kept.alloc (Below.refl _ _) _)) (Kept.trans (k0.trans kq4) (Kept.alloc (Below.refl _ _) _))).mono ?_; rintro e w5 ⟨rfl, hk5⟩; have k45 : Kept w4 w5 := Kept.trans (Kept.alloc (Below.refl _ _) _) hk5; have x5 := (Cells.new w4 30 #[.slice (some ⟨g4, 0, none⟩) L L, .slice (some ⟨h4, 0, none⟩) M M]).kept hk5)
        | (have g := kq3; go_at_call 7; refine (HTo.out _ (k0.trans kq3)).mono ?_; rintro e w4 ⟨g4, h4, rfl, C4, S4, hk4⟩; have kq4 := kq3.trans hk4)
        | (have g := kq2; go_at_call 6; refine (HSp.out _ _ _ C2 S2).mono ?_; rintro e w3 ⟨rfl, hk3⟩; have kq3 := kq2.trans hk3; obtain ⟨cc0', cc1'⟩ := HB.out _ kq3)
        | (have g := kq1; go_at_call 7; refine (HTo.out _ (k0.trans kq1)).mono ?_; rintro e w2 ⟨g2, h2, rfl, C2, S2, hk2⟩; have kq2 := kq1.trans hk2))
      have kq5 := kq4.trans k45
      have kd : Kept w5 w5.drew := (Below.refl _ w5).drew
      have xd := x5.kept kd
      have hTo := HTo.out _ (k0.trans (kq5.trans kd))
      obtain ⟨B5, hB5⟩ : ∃ x, w4.heap.size = x := ⟨_, rfl⟩
      rw [hB5] at x5 xd
      simp only [hB5]
      obtain ⟨a0, a1⟩ := HB.out _ (kq5.trans kd)
      have e0 := xd.cell 0; have e1 := xd.cell 1
      have S5 := S4.kept (k45.trans kd)
      have C5 := C4.kept (k45.trans kd)
      have KW := (k0.trans kq5).trans kd
      clear hB5 HTo HSp HIm hSz S2 C2 hk2 hk3 hk4 hk5 kq1 kq2 kq3 cc0' cc1'
      go_wp2_with fail
      go_region_with (first
        | (have g := k6; go_at_call 9; refine (HEq.out _ _ _ _ _ (C5.kept k6) (S5.kept k6) C6 S6).mono ?_; rintro e w7 ⟨rfl, k7⟩)
        | (go_at_call 7; refine hTo.mono ?_; rintro e w6 ⟨g6, h6, rfl, C6, S6, k6⟩; have y6 := xd.kept k6; have e0 := y6.cell 0; have e1 := y6.cell 1))
      all_goals (
        go_wp2_with fail
        go_ret
        exact ⟨rfl, (KW.trans k6).trans k7⟩)
    · go_wp2_with fail
      go_ret
      exact ⟨rfl, Kept.trans k0 kq1⟩
  · clear hS0 hF0 hC0 hG0 b0 hFm hE
    have HN : Hid _ := hb
    clear hb
    go_enter Tryd.func3, Tryd.ntmps3
    go_wp2_with fail
    refine hSz.mono ?_
    rintro e w1 ⟨⟨r, rfl, hr⟩, kq1⟩
    rcases hr with ⟨_, _, hr⟩ | rfl
    · exact absurd hr HN.out
    · go_wp2_with fail
      go_ret
      exact ⟨rfl, Kept.trans k0 kq1⟩

set_option maxRecDepth 100000 in
theorem lifted (os : Os) (started : os.Started) (H : Type) (enc : TypeId × Value → H) :
    ReturnsInHanded {} Tryd.checked os 3 .any (fun w args => (Rows.fnExactUnitOkSpec.pre enc Tryd.prog Tryd.f3 [] false w args ∧ laidMetH Tryd.prog Rows.fnExactUnitOkRow.laid w) ∧ sizedMet enc Tryd.prog Tryd.f3 (OpenSpec.ofChange Rows.fnExactUnitOkSpec) false w args)
      (Rows.fnExactUnitOkSpec.post enc Tryd.prog Tryd.f3 false true false false) := by
  refine returnsInHanded_of_change_and (C := Tryd.checked) (X := fun w _ => laidMetH Tryd.prog Rows.fnExactUnitOkRow.laid w) (fun _ _ _ hh h => h.of_heap hh) own started (by kernel_rfl) Tryd.func3
    (ChangeSpec.witness_at (enc := enc) (C := Tryd.checked) (os := os) (X := fun w _ => laidMetH Tryd.prog Rows.fnExactUnitOkRow.laid w) false (laidWorld os) #[.agg #[.slice none 0 0, .slice none 0 0]] 8 rfl (by kernel_rfl) (by kernel_rfl) (by kernel_rfl) (by kernel_rfl) (by kernel_rfl) (laidWorld_met os _)) ?_
  intro W base args ds gs before hval0 hW _ _ hL _
  have hval : ∀ (j : Nat) t v, Tryd.f3.params[j]? = some t → args[j]? = some v → Value.okWide Tryd.prog W .any base t v := hval0
  have hW' := hW
  obtain ⟨p, q, hA0, hV, rfl, hfz, hnd⟩ := hW
  have hA : DataW.TrodAll enc Tryd.prog W 0 (fun _ => true) true Tryd.f3.params.toList args.toList ds p := hA0
  rw [Tryd.params3] at hA hval
  obtain ⟨v0, vs0, d0, ds0, p0, q0, hargs0, rfl, rfl, h0, r0⟩ := trodAll_cons hA
  obtain ⟨rfl, rfl, rfl⟩ := trodAll_nil r0
  obtain rfl : args = #[v0] := by cases args; simp_all
  obtain ⟨dv, rfl⟩ : ∃ d, gs = [d] := by
    obtain ⟨_, _, _, _, d, _, e, _⟩ := trodVars_one hV
    exact ⟨d, e⟩
  clear hA0 hval0
  have hlt0 : ∀ x ∈ p0, x.block < W.heap.size := fun x hx => by simpa using hW'.lt x (by simp [hx])
  obtain ⟨ca0, ta0, cc0, tc0, cs0, ts0, rfl, hF0, hC0, hG0, hS0⟩ := open_unit (hval 0 25 v0 rfl rfl) h0
  refine (walk W (env_of_laid hL) ca0 ta0 cc0 tc0 cs0 ts0 hF0 hC0 hG0 hS0).mono fun e W' ⟨he, hk⟩ => ?_
  subst he
  refine ⟨_, rfl, _, _, _, [], p0 ++ [], q, hW', ?_, ?_, Below.trodVars laid hk (by kernel_rfl) hV, hk.frame _, fun h => by cases h⟩
  · exact trodAll_cons_mk (shut_bool Tryd.underlying4 _) trodAll_mk0
  · exact (trodAll_cons_mk (Below.trod laid (by kernel_rfl) (of_decide_eq_true (by kernel_rfl)) h0 hk hlt0) trodAll_mk0)

theorem over : Rows.fnExactUnitOkRow.holds Tryd.pinned (OpenSpec.ofChange Rows.fnExactUnitOkSpec) :=
  OpenClaim.holds_of_wide 3 Tryd.f3 rfl rfl rfl rfl rfl rfl rfl ⟨rfl, rfl, rfl, rfl, rfl⟩ rfl rfl rfl rfl rfl (by kernel_rfl) Tryd.func3 (by kernel_rfl)
    (of_decide_eq_true (by kernel_rfl)) (by unfold Func.isWrapper; first | (rw [if_pos (by decide +kernel)]; kernel_rfl) | (rw [if_neg (by decide +kernel)]; exact ⟨rfl, rfl⟩))
    (fun os started H enc _ => lifted os started H enc)

theorem proved : Rows.FnExactUnitOkCardSaid :=
  Claim7.holds_tied_plain_at .later [] [.data] true (true, Rows.fnExactUnitOkCard.stood.harness.2) Rows.fnExactUnitOkCard.stood.looks
    over (fun _ h => by cases h) (by kernel_rfl) (fun _ h => by cases h) fnExactUnitOk_row_tie rfl ⟨rfl, rfl⟩ (by kernel_rfl) rfl
    (fun f fn hf hfn => by
      obtain rfl : f = 3 := Option.some.inj ((show Tryd.prog.funcNamed Rows.fnExactUnitOkRow.func = some 3 by kernel_rfl).symm.trans hf) |>.symm
      obtain rfl : fn = Tryd.f3 := (Option.some.inj (Tryd.func3.symm.trans hfn)).symm
      exact ⟨by kernel_rfl, fun j t ht => by
        rw [Tryd.params3] at ht
        have hm : t ∈ [25] := by
          have := List.mem_of_getElem? (l := [25]) (i := j) (a := t) (by simpa using ht)
          exact this
        have hall : ∀ t ∈ [25], Tryd.prog.wantsStandIn t = false := by
          intro t ht
          simp only [List.mem_cons, List.not_mem_nil, or_false] at ht
          rcases ht with rfl <;> kernel_rfl
        exact hall t hm⟩)
    (by kernel_rfl)
#print axioms proved
end Go.Proofs.YtjagnmajnlcahaaDoor.fnExactUnitOk
