/-
  The law FnExactLines is proved: at every Outcome impl.Lines answers as its model, and it writes into none of it.
-/
import Derived.Test.YtjagnmajnlcahaaRows
import Derived.Test.YtjagnmajnlcahaaLinB
import Derived.Test.YtjagnmajnlcahaaLinA
import Derived.Deep.RegionWith
import Derived.Deep.CutRange
namespace Go.Proofs.Ytjagnmajnlcahaa.fnExactLines
open Go.ChangeShapes Go.WideShapes Go.ChangeAt Go.RowKit
set_option linter.unusedVariables false

theorem own : ownKnob Try.prog.godebug = none := by kernel_rfl

set_option maxHeartbeats 8000000 in
set_option maxRecDepth 100000 in
theorem walk (w : World) (c0 : Int) (ao0 : Option Addr) (cap0 : Nat) (ts0 : List ByteArray) (hF0 : FitT ts0) (hS0 : StA w ao0 ts0) :
    Calls Try.prog 3 #[.agg #[.int .i64 c0, .slice ao0 ts0.length cap0]] w fun e w' => e = .returned (.bool true) ∧ Kept w w' := by
  have k0 : Kept w (w.alloc (.cells #[.int .i64 c0, .slice ao0 ts0.length cap0] 24)) := Kept.alloc (Below.refl _ _) _
  have hSz := szOutcome_ok _ c0 ao0 cap0 ts0 1048576 (hS0.kept k0) hF0 (by decide) (by decide)
  have b0 := Cells.new w 24 #[.int .i64 c0, .slice ao0 ts0.length cap0]
  by_cases hb : ((blkT ts0 : Nat) : Int) ≤ 1048576
  · rw [show leftT 1048576 (blkT ts0) = 1048576 - ((blkT ts0 : Nat) : Int) from if_pos hb] at hSz
    obtain ⟨r, hr⟩ : ∃ r, 1048576 - ((blkT ts0 : Nat) : Int) = r := ⟨_, rfl⟩
    have hd : decide (r < 0) = false := decide_eq_false (by omega)
    rw [hr] at hSz
    have hl : ts0.length ≤ 1048576 := by unfold blkT at hb; omega
    have hz : sumT ts0 + ts0.length ≤ 100000000 := by unfold blkT at hb; omega
    have HTo : Hid (∀ u, Kept w u → Calls Try.prog 6 #[.agg #[.int .i64 c0, .slice ao0 ts0.length cap0]] u fun e w' => ∃ g, e = .returned (.agg #[.int .i64 c0, .slice (some ⟨g, 0, none⟩) ts0.length ts0.length]) ∧ StA w' (some ⟨g, 0, none⟩) ts0 ∧ Kept u w') := fun u hu => (toOutcome_ok u c0 ao0 cap0 ts0 (hS0.kept hu) hl).mono (fun e w' ⟨g, h1, h2, h3, h4⟩ => ⟨g, h1, h3, h4⟩)
    obtain ⟨D, hD⟩ : ∃ D, lnT ts0 = D := ⟨_, rfl⟩
    have HSp : Hid (∀ u ao, StA u ao ts0 → Calls Try.prog 5 #[.agg #[.int .i64 c0, .slice ao ts0.length ts0.length]] u fun e w' => e = .returned (.string D) ∧ Kept u w') := fun u ao h => by rw [← hD]; exact spec_Lines_ok u c0 ao _ ts0 h hz
    have HIm : Hid (∀ u ao, StA u ao ts0 → Calls Try.prog 7 #[.agg #[.int .i64 c0, .slice ao ts0.length ts0.length]] u fun e w' => e = .returned (.string D) ∧ Kept u w') := fun u ao h => by rw [← hD]; exact impl_Lines_ok u c0 ao _ ts0 h hz
    have HEq : Hid (∀ u ao bo, StA u ao ts0 → StA u bo ts0 → Calls Try.prog 8 #[.agg #[.int .i64 c0, .slice ao ts0.length ts0.length], .agg #[.int .i64 c0, .slice bo ts0.length ts0.length]] u fun e w' => e = .returned (.bool true) ∧ Kept u w') := fun u ao bo h h' => eqOutcome_ok u c0 ao bo _ _ ts0 h h' hl
    have HB : Hid (∀ u, Kept (w.alloc (.cells #[.int .i64 c0, .slice ao0 ts0.length cap0] 24)) u → u.cell? ⟨w.heap.size, 0, none⟩ = some (.int .i64 c0) ∧ u.cell? ⟨w.heap.size, 1, none⟩ = some (.slice ao0 ts0.length cap0)) := fun u hu => ⟨(b0.kept hu).cell 0, (b0.kept hu).cell 1⟩
    have hx' : (D.toList != D.toList) = false := by simp
    obtain ⟨L, hL⟩ : ∃ L, ts0.length = L := ⟨_, rfl⟩
    rw [hL] at HTo HSp HIm HEq HB hSz
    simp only [hL]
    rw [hL] at k0
    clear hr hb hD hS0 hF0 b0 hz hl
    go_enter Try.func3, Try.ntmps3
    go_upto_region 10 with (first
      | (have g := kq4; go_at_call 7; refine (HIm.out _ _ (StA.kept S4 (Kept.alloc (Below.refl _ _) _))).mono ?_; rintro e w5 ⟨rfl, hk5⟩; have k45 : Kept w4 w5 := Kept.trans (Kept.alloc (Below.refl _ _) _) hk5; have x5 := (Cells.new w4 27 #[.int .i64 c0, .slice (some ⟨g4, 0, none⟩) L L]).kept hk5)
      | (have g := kq3; go_at_call 6; refine (HTo.out _ (k0.trans kq3)).mono ?_; rintro e w4 ⟨g4, rfl, S4, hk4⟩; have kq4 := kq3.trans hk4)
      | (have g := kq2; go_at_call 5; refine (HSp.out _ _ S2).mono ?_; rintro e w3 ⟨rfl, hk3⟩; have kq3 := kq2.trans hk3; obtain ⟨cc0, cc1⟩ := HB.out _ kq3)
      | (have g := kq1; go_at_call 6; refine (HTo.out _ (k0.trans kq1)).mono ?_; rintro e w2 ⟨g2, rfl, S2, hk2⟩; have kq2 := kq1.trans hk2)
      | (go_at_call 4; refine hSz.mono ?_; rintro e w1 ⟨rfl, kq1⟩; obtain ⟨cc0, cc1⟩ := HB.out _ kq1))
    have kq5 := kq4.trans k45
    have kd : Kept w5 w5.drew := (Below.refl _ w5).drew
    have xd := x5.kept kd
    have hTo := HTo.out _ (k0.trans (kq5.trans kd))
    obtain ⟨B5, hB5⟩ : ∃ x, w4.heap.size = x := ⟨_, rfl⟩
    rw [hB5] at x5 xd
    simp only [hB5]
    obtain ⟨a0, a1⟩ := HB.out _ (kq5.trans kd)
    have e0 := xd.cell 0; have e1 := xd.cell 1
    have S5 := S4.kept (k45.trans kd)
    have KW := (k0.trans kq5).trans kd
    clear hB5 HTo HSp HIm hSz S2 hk2 hk3 hk4 hk5 kq1 kq2 kq3 cc0 cc1
    go_wp2_with fail
    go_region_with (first
      | (have g := k6; go_at_call 8; refine (HEq.out _ _ _ (S5.kept k6) S6).mono ?_; rintro e w7 ⟨rfl, k7⟩)
      | (go_at_call 6; refine hTo.mono ?_; rintro e w6 ⟨g6, rfl, S6, k6⟩; have y6 := xd.kept k6; have e0 := y6.cell 0; have e1 := y6.cell 1))
    all_goals (
      go_wp2_with fail
      go_ret
      exact ⟨rfl, (KW.trans k6).trans k7⟩)
  · rw [show leftT 1048576 (blkT ts0) = -1 from if_neg hb] at hSz
    clear hb hS0 hF0
    go_enter Try.func3, Try.ntmps3
    go_wp2_with (go_at_call 4; refine hSz.mono ?_; rintro e w1 ⟨rfl, kq1⟩)
    go_ret
    exact ⟨rfl, Kept.trans k0 kq1⟩

set_option maxRecDepth 100000 in
theorem lifted (os : Os) (started : os.Started) (H : Type) (enc : TypeId × Value → H) :
    ReturnsInHanded {} Try.checked os 3 .any (Rows.fnExactLinesSpec.pre6 enc Try.prog Try.f3 Rows.fnExactLinesRow.domain false) (Rows.fnExactLinesSpec.post enc Try.prog Try.f3 false true false false) := by
  refine returnsInHanded_of_change (C := Try.checked) own started (by kernel_rfl) Try.func3
    (ChangeSpec.witness6 (enc := enc) (C := Try.checked) false ⟨#[], #[.agg #[.int .i64 0, .slice none 0 0]], []⟩ 8 (by kernel_rfl) (by kernel_rfl) (by kernel_rfl) (by kernel_rfl)) ?_
  intro W base args ds gs before hval0 hW hcnd _
  have hval : ∀ (j : Nat) t v, Try.f3.params[j]? = some t → args[j]? = some v → Value.okWide Try.prog W .any base t v := hval0
  have hW' := hW
  obtain ⟨p, q, hA0, hV, rfl, hfz, hnd⟩ := hW
  have hA : DataW.TrodAll enc Try.prog W 0 (fun _ => true) true Try.f3.params.toList args.toList ds p := hA0
  rw [Try.params3] at hA hval
  obtain ⟨v0, vs0, d0, ds0, p0, q0, hargs0, rfl, rfl, h0, r0⟩ := trodAll_cons hA
  obtain ⟨rfl, rfl, rfl⟩ := trodAll_nil r0
  obtain rfl : args = #[v0] := by cases args; simp_all
  obtain ⟨rfl, rfl⟩ := trodVars_none hV
  clear hA0 hval0
  simp only [List.append_nil] at hW'
  have hlt0 : ∀ x ∈ p0, x.block < W.heap.size := fun x hx => by simpa using hW'.lt x (by simp [hx])
  obtain ⟨c0, ao0, cap0, ts0, rfl, hF0, hS0⟩ := open_outcome (hval 0 24 v0 rfl rfl) h0
  refine (walk W c0 ao0 cap0 ts0 hF0 hS0).mono fun e W' ⟨he, hk⟩ => ?_
  subst he
  refine ⟨_, rfl, _, _, _, [], p0 ++ [], [], hW', ?_, ?_, rfl, hk.frame _, fun h => by cases h⟩
  · exact trodAll_cons_mk (shut_bool Try.underlying4 _) trodAll_mk0
  · exact (trodAll_cons_mk (Below.trod laid (by kernel_rfl) (of_decide_eq_true (by kernel_rfl)) h0 hk hlt0) trodAll_mk0)

theorem over : Rows.fnExactLinesRow.holds Try.pinned (OpenSpec.ofChange Rows.fnExactLinesSpec) :=
  OpenClaim.holds_of_wide 3 Try.f3 rfl rfl rfl rfl rfl rfl rfl ⟨rfl, rfl, rfl, rfl, rfl⟩ rfl rfl rfl rfl rfl (by kernel_rfl) Try.func3 (by kernel_rfl)
    (of_decide_eq_true (by kernel_rfl)) (by unfold Func.isWrapper; first | (rw [if_pos (by decide +kernel)]; kernel_rfl) | (rw [if_neg (by decide +kernel)]; exact ⟨rfl, rfl⟩))
    (fun os started H enc _ => lifted os started H enc)

theorem proved : Rows.FnExactLinesSaid :=
  over
#print axioms proved
end Go.Proofs.Ytjagnmajnlcahaa.fnExactLines
