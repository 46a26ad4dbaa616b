/-
  The law FnExactOutText is proved: at every outcome impl.OutText answers as its model, and it writes nothing into it; three tables of the library and the program's table outNames lie as their text lays them.
-/
import Derived.Test.YthmabhglmgnamaaDoorRows
import Derived.Test.YthmabhglmgnamaaDoorDoorO
import Derived.Test.YthmabhglmgnamaaDoorCards
import Derived.Test.YthmabhglmgnamaaDoorTie
import Derived.ChangeVars
import Derived.Stop.Joined
import Derived.SevenTiedAt
import Derived.OpenVars
import Derived.Test.YthmabhglmgnamaaDoorOutA
import Derived.Test.YthmabhglmgnamaaDoorLinB
import Derived.Deep.RegionWith
import Derived.Deep.CutRange
namespace Go.Proofs.YthmabhglmgnamaaDoor.fnExactOutText
open Go.ChangeShapes Go.WideShapes Go.ChangeAt Go.RowKit
set_option linter.unusedVariables false

theorem own : ownKnob Tryd.prog.godebug = none := by kernel_rfl

theorem tabT : (Tryd.prog.globalNamed "internal/strconv.uint64pow10").bind (fun g => (Tryd.prog.globals[g]?).map (·.type)) = some 112 := by kernel_rfl
theorem tabC1 : Tryd.prog.cellsOf 106 = 1 := by kernel_rfl
theorem tabC20 : Tryd.prog.cellsOf 112 = 20 := by kernel_rfl
theorem tabD : (Rows.laid_internal_strconv_uint64pow10 : DataW Unit) = Lib.tabData .u64 Lib.pow10Tab := by kernel_rfl
/-- What the listed variables hold. -/
def EnvV (w : World) : Prop := Tab w ∧ Outs w
theorem env_of_laid {W : World} (h : laidMetH Tryd.prog Rows.fnExactOutTextRow.laid W) : EnvV W := by
  have h' : laidMet Tryd.prog Rows.fnExactOutTextRow.laid W := h
  obtain ⟨ps, ⟨g1, t1, cs1, f1, p1, q1, _, _, _, _, ⟨g2, t2, cs2, f2, p2, q2, _, _, _, _, ⟨g3, t3, cs3, f3, p3, q3, hg3, ht3, hv3, hd3, ⟨g4, t4, cs4, f4, p4, q4, hg4, ht4, hv4, hd4, _, _⟩, _⟩, _⟩, _⟩, _⟩ := h'
  refine ⟨?_, outs_of hg4 ht4 hv4 hd4⟩
  have e : t3 = 112 := by
    have := tabT
    rw [hg3] at this
    exact Option.some.inj (ht3.symm.trans this)
  subst e
  rw [tabD] at hd3
  unfold Tab Lib.TabIs
  rw [hv3, ← Lib.cells_of_tab Tryd.underlying112 Tryd.underlying106 tabC1 tabC20 hd3]
noncomputable def laidWorld (os : Os) : World :=
  { World.holding Tryd.prog os ⟨#[], #[], []⟩ with heap := ((((World.holding Tryd.prog os ⟨#[], #[], []⟩).heap.modify 2 (layO Rows.laid_internal_strconv_uint64pow10)).modify 3 (layO Rows.laid_math_bits_deBruijn32tab)).modify 4 (layO Rows.laid_math_bits_deBruijn64tab)).modify 0 (layO Rows.laid_loop_example_g00242_impl_outNames) }
set_option maxRecDepth 100000 in
theorem laidWorld_met (os : Os) (args : Array Value) : laidMetH Tryd.prog Rows.fnExactOutTextRow.laid ((laidWorld os).forCall (fun _ _ => 0) ⟨#[], args, []⟩).memory :=
  laidMetH_of_parts (laidMet_of_run' 8 (by kernel_rfl) (by kernel_rfl)) (by kernel_rfl)
set_option maxHeartbeats 8000000 in
set_option maxRecDepth 100000 in
theorem walk (w : World) (hE : EnvV w) (c0 : Int) (ao0 : Option Addr) (cap0 : Nat) (ts0 : List ByteArray) (hF0 : FitT ts0) (hS0 : StA w ao0 ts0) :
    Calls Tryd.prog 5 #[.agg #[.int .i64 c0, .slice ao0 ts0.length cap0]] w fun e w' => e = .returned (.bool true) ∧ Kept w w' := by
  obtain ⟨hT, hOu⟩ := hE
  have k0 : Kept w (w.alloc (.cells #[.int .i64 c0, .slice ao0 ts0.length cap0] 44)) := Kept.alloc (Below.refl _ _) _
  have hSz := szOutcome_ok _ c0 ao0 cap0 ts0 1048576 (hS0.kept k0) hF0 (by decide) (by decide)
  have b0 := Cells.new w 44 #[.int .i64 c0, .slice ao0 ts0.length cap0]
  by_cases hb : ((blkT ts0 : Nat) : Int) ≤ 1048576
  · rw [show leftT 1048576 (blkT ts0) = 1048576 - ((blkT ts0 : Nat) : Int) from if_pos hb] at hSz
    obtain ⟨r, hr⟩ : ∃ r, 1048576 - ((blkT ts0 : Nat) : Int) = r := ⟨_, rfl⟩
    have hd : decide (r < 0) = false := decide_eq_false (by omega)
    rw [hr] at hSz
    have hl : ts0.length ≤ 1048576 := by unfold blkT at hb; omega
    have hz : sumT ts0 + ts0.length ≤ 100000000 := by unfold blkT at hb; omega
    have HTo : Hid (∀ u, Kept w u → Calls Tryd.prog 18 #[.agg #[.int .i64 c0, .slice ao0 ts0.length cap0]] u fun e w' => ∃ g, e = .returned (.agg #[.int .i64 c0, .slice (some ⟨g, 0, none⟩) ts0.length ts0.length]) ∧ StA w' (some ⟨g, 0, none⟩) ts0 ∧ Kept u w') := fun u hu => (toOutcome_ok u c0 ao0 cap0 ts0 (hS0.kept hu) hl).mono (fun e w' ⟨g, h1, h2, h3, h4⟩ => ⟨g, h1, h3, h4⟩)
    obtain ⟨D, hD⟩ : ∃ D, outT c0 ts0.length = D := ⟨_, rfl⟩
    have HSp : Hid (∀ u ao, StA u ao ts0 → Calls Tryd.prog 17 #[.agg #[.int .i64 c0, .slice ao ts0.length ts0.length]] u fun e w' => e = .returned (.string D) ∧ Kept u w') := fun u ao h => by rw [← hD]; exact spec_OutText_ok u c0 ao _ _ (by omega)
    have HIm : Hid (∀ u ao, Kept w u → StA u ao ts0 → Calls Tryd.prog 19 #[.agg #[.int .i64 c0, .slice ao ts0.length ts0.length]] u fun e w' => e = .returned (.string D) ∧ Kept u w') := fun u ao hu h => by rw [← hD]; exact impl_OutText_ok u c0 ao _ _ (by omega) (hOu.kept hu) (hT.kept hu)
    have HEq : Hid (∀ u ao bo, StA u ao ts0 → StA u bo ts0 → Calls Tryd.prog 20 #[.agg #[.int .i64 c0, .slice ao ts0.length ts0.length], .agg #[.int .i64 c0, .slice bo ts0.length ts0.length]] u fun e w' => e = .returned (.bool true) ∧ Kept u w') := fun u ao bo h h' => eqOutcome_ok u c0 ao bo _ _ ts0 h h' hl
    have HB : Hid (∀ u, Kept (w.alloc (.cells #[.int .i64 c0, .slice ao0 ts0.length cap0] 44)) u → u.cell? ⟨w.heap.size, 0, none⟩ = some (.int .i64 c0) ∧ u.cell? ⟨w.heap.size, 1, none⟩ = some (.slice ao0 ts0.length cap0)) := fun u hu => ⟨(b0.kept hu).cell 0, (b0.kept hu).cell 1⟩
    have hx' : (D.toList != D.toList) = false := by simp
    obtain ⟨L, hL⟩ : ∃ L, ts0.length = L := ⟨_, rfl⟩
    rw [hL] at HTo HSp HIm HEq HB hSz
    simp only [hL]
    rw [hL] at k0
    clear hOu hT hr hb hD hS0 hF0 b0 hz hl
    go_enter Tryd.func5, Tryd.ntmps5
    go_upto_region 10 with (first
      | (have g := kq4; go_at_call 19; refine (HIm.out _ _ ((k0.trans kq4).trans (Kept.alloc (Below.refl _ _) _)) (StA.kept S4 (Kept.alloc (Below.refl _ _) _))).mono ?_; rintro e w5 ⟨rfl, hk5⟩; have k45 : Kept w4 w5 := Kept.trans (Kept.alloc (Below.refl _ _) _) hk5; have x5 := (Cells.new w4 47 #[.int .i64 c0, .slice (some ⟨g4, 0, none⟩) L L]).kept hk5)
      | (have g := kq3; go_at_call 18; refine (HTo.out _ (k0.trans kq3)).mono ?_; rintro e w4 ⟨g4, rfl, S4, hk4⟩; have kq4 := kq3.trans hk4)
      | (have g := kq2; go_at_call 17; refine (HSp.out _ _ S2).mono ?_; rintro e w3 ⟨rfl, hk3⟩; have kq3 := kq2.trans hk3; obtain ⟨cc0, cc1⟩ := HB.out _ kq3)
      | (have g := kq1; go_at_call 18; refine (HTo.out _ (k0.trans kq1)).mono ?_; rintro e w2 ⟨g2, rfl, S2, hk2⟩; have kq2 := kq1.trans hk2)
      | (go_at_call 16; refine hSz.mono ?_; rintro e w1 ⟨rfl, kq1⟩; obtain ⟨cc0, cc1⟩ := HB.out _ kq1))
    have kq5 := kq4.trans k45
    have kd : Kept w5 w5.drew := (Below.refl _ w5).drew
    have xd := x5.kept kd
    have hTo := HTo.out _ (k0.trans (kq5.trans kd))
    obtain ⟨B5, hB5⟩ : ∃ x, w4.heap.size = x := ⟨_, rfl⟩
    rw [hB5] at x5 xd
    simp only [hB5]
    obtain ⟨a0, a1⟩ := HB.out _ (kq5.trans kd)
    have e0 := xd.cell 0; have e1 := xd.cell 1
    have S5 := S4.kept (k45.trans kd)
    have KW := (k0.trans kq5).trans kd
    clear hB5 HTo HSp HIm hSz S2 hk2 hk3 hk4 hk5 kq1 kq2 kq3 cc0 cc1
    go_wp2_with fail
    go_region_with (first
      | (have g := k6; go_at_call 20; refine (HEq.out _ _ _ (S5.kept k6) S6).mono ?_; rintro e w7 ⟨rfl, k7⟩)
      | (go_at_call 18; refine hTo.mono ?_; rintro e w6 ⟨g6, rfl, S6, k6⟩; have y6 := xd.kept k6; have e0 := y6.cell 0; have e1 := y6.cell 1))
    all_goals (
      go_wp2_with fail
      go_ret
      exact ⟨rfl, (KW.trans k6).trans k7⟩)
  · rw [show leftT 1048576 (blkT ts0) = -1 from if_neg hb] at hSz
    clear hb hS0 hF0 hOu hT
    go_enter Tryd.func5, Tryd.ntmps5
    go_wp2_with (go_at_call 16; refine hSz.mono ?_; rintro e w1 ⟨rfl, kq1⟩)
    go_ret
    exact ⟨rfl, Kept.trans k0 kq1⟩

set_option maxRecDepth 100000 in
theorem lifted (os : Os) (started : os.Started) (H : Type) (enc : TypeId × Value → H) :
    ReturnsInHanded {} Tryd.checked os 5 .any (fun w args => (Rows.fnExactOutTextSpec.pre enc Tryd.prog Tryd.f5 [] false w args ∧ laidMetH Tryd.prog Rows.fnExactOutTextRow.laid w) ∧ sizedMet enc Tryd.prog Tryd.f5 (OpenSpec.ofChange Rows.fnExactOutTextSpec) false w args)
      (Rows.fnExactOutTextSpec.post enc Tryd.prog Tryd.f5 false true false false) := by
  refine returnsInHanded_of_change_and (C := Tryd.checked) (X := fun w _ => laidMetH Tryd.prog Rows.fnExactOutTextRow.laid w) (fun _ _ _ hh h => h.of_heap hh) own started (by kernel_rfl) Tryd.func5
    (ChangeSpec.witness_at (enc := enc) (C := Tryd.checked) (os := os) (X := fun w _ => laidMetH Tryd.prog Rows.fnExactOutTextRow.laid w) false (laidWorld os) #[.agg #[.int .i64 0, .slice none 0 0]] 8 rfl (by kernel_rfl) (by kernel_rfl) (by kernel_rfl) (by kernel_rfl) (by kernel_rfl) (laidWorld_met os _)) ?_
  intro W base args ds gs before hval0 hW _ _ hL _
  have hval : ∀ (j : Nat) t v, Tryd.f5.params[j]? = some t → args[j]? = some v → Value.okWide Tryd.prog W .any base t v := hval0
  have hW' := hW
  obtain ⟨p, q, hA0, hV, rfl, hfz, hnd⟩ := hW
  have hA : DataW.TrodAll enc Tryd.prog W 0 (fun _ => true) true Tryd.f5.params.toList args.toList ds p := hA0
  rw [Tryd.params5] at hA hval
  obtain ⟨v0, vs0, d0, ds0, p0, q0, hargs0, rfl, rfl, h0, r0⟩ := trodAll_cons hA
  obtain ⟨rfl, rfl, rfl⟩ := trodAll_nil r0
  obtain rfl : args = #[v0] := by cases args; simp_all
  obtain ⟨dv, rfl⟩ : ∃ d, gs = [d] := by
    obtain ⟨_, _, _, _, d, _, e, _⟩ := trodVars_one hV
    exact ⟨d, e⟩
  clear hA0 hval0
  have hlt0 : ∀ x ∈ p0, x.block < W.heap.size := fun x hx => by simpa using hW'.lt x (by simp [hx])
  obtain ⟨c0, ao0, cap0, ts0, rfl, hF0, hS0⟩ := open_outcome (hval 0 44 v0 rfl rfl) h0
  refine (walk W (env_of_laid hL) c0 ao0 cap0 ts0 hF0 hS0).mono fun e W' ⟨he, hk⟩ => ?_
  subst he
  refine ⟨_, rfl, _, _, _, [], p0 ++ [], q, hW', ?_, ?_, Below.trodVars laid hk (by kernel_rfl) hV, hk.frame _, fun h => by cases h⟩
  · exact trodAll_cons_mk (shut_bool Tryd.underlying4 _) trodAll_mk0
  · exact (trodAll_cons_mk (Below.trod laid (by kernel_rfl) (of_decide_eq_true (by kernel_rfl)) h0 hk hlt0) trodAll_mk0)

theorem over : Rows.fnExactOutTextRow.holds Tryd.pinned (OpenSpec.ofChange Rows.fnExactOutTextSpec) :=
  OpenClaim.holds_of_wide 5 Tryd.f5 rfl rfl rfl rfl rfl rfl rfl ⟨rfl, rfl, rfl, rfl, rfl⟩ rfl rfl rfl rfl rfl (by kernel_rfl) Tryd.func5 (by kernel_rfl)
    (of_decide_eq_true (by kernel_rfl)) (by unfold Func.isWrapper; first | (rw [if_pos (by decide +kernel)]; kernel_rfl) | (rw [if_neg (by decide +kernel)]; exact ⟨rfl, rfl⟩))
    (fun os started H enc _ => lifted os started H enc)

theorem proved : Rows.FnExactOutTextCardSaid :=
  Claim7.holds_tied_plain_at .later [] [.data, .data, .data, .data] true (true, Rows.fnExactOutTextCard.stood.harness.2) Rows.fnExactOutTextCard.stood.looks
    over (fun _ h => by cases h) (by kernel_rfl) (fun _ h => by cases h) fnExactOutText_row_tie rfl ⟨rfl, rfl⟩ (by kernel_rfl) rfl
    (fun f fn hf hfn => by
      obtain rfl : f = 5 := Option.some.inj ((show Tryd.prog.funcNamed Rows.fnExactOutTextRow.func = some 5 by kernel_rfl).symm.trans hf) |>.symm
      obtain rfl : fn = Tryd.f5 := (Option.some.inj (Tryd.func5.symm.trans hfn)).symm
      exact ⟨by kernel_rfl, fun j t ht => by
        rw [Tryd.params5] at ht
        have hm : t ∈ [44] := by
          have := List.mem_of_getElem? (l := [44]) (i := j) (a := t) (by simpa using ht)
          exact this
        have hall : ∀ t ∈ [44], Tryd.prog.wantsStandIn t = false := by
          intro t ht
          simp only [List.mem_cons, List.not_mem_nil, or_false] at ht
          rcases ht with rfl <;> kernel_rfl
        exact hall t hm⟩)
    (by kernel_rfl)
#print axioms proved
end Go.Proofs.YthmabhglmgnamaaDoor.fnExactOutText
