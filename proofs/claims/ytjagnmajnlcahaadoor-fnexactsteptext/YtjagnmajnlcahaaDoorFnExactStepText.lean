/-
  The law FnExactStepText is proved: at every step impl.StepText answers as its model; three tables of the library and the program's table opForms lie as their text lays them.
-/
import Derived.Test.YtjagnmajnlcahaaDoorRows
import Derived.Test.YtjagnmajnlcahaaDoorDoorF
import Derived.Test.YtjagnmajnlcahaaDoorCards
import Derived.Test.YtjagnmajnlcahaaDoorTie
import Derived.ChangeVars
import Derived.Stop.Joined
import Derived.SevenTiedAt
import Derived.OpenVars
import Derived.Test.YtjagnmajnlcahaaDoorFmsF
import Derived.Test.YtjagnmajnlcahaaDoorStpT
namespace Go.Proofs.YtjagnmajnlcahaaDoor.fnExactStepText
open Go.ChangeShapes Go.WideShapes Go.ChangeAt Go.RowKit
set_option linter.unusedVariables false

theorem own : ownKnob Tryd.prog.godebug = none := by kernel_rfl

theorem tabT : (Tryd.prog.globalNamed "internal/strconv.uint64pow10").bind (fun g => (Tryd.prog.globals[g]?).map (·.type)) = some 84 := by kernel_rfl
theorem tabC1 : Tryd.prog.cellsOf 77 = 1 := by kernel_rfl
theorem tabC20 : Tryd.prog.cellsOf 84 = 20 := by kernel_rfl
theorem tabD : (Rows.laid_internal_strconv_uint64pow10 : DataW Unit) = Lib.tabData .u64 Lib.pow10Tab := by kernel_rfl
/-- What the listed variables hold. -/
def EnvV (w : World) : Prop := Tab w ∧ Forms w
theorem env_of_laid {W : World} (h : laidMetH Tryd.prog Rows.fnExactStepTextRow.laid W) : EnvV W := by
  have h' : laidMet Tryd.prog Rows.fnExactStepTextRow.laid W := h
  obtain ⟨ps, ⟨g1, t1, cs1, f1, p1, q1, _, _, _, _, ⟨g2, t2, cs2, f2, p2, q2, _, _, _, _, ⟨g3, t3, cs3, f3, p3, q3, hg3, ht3, hv3, hd3, ⟨g4, t4, cs4, f4, p4, q4, hg4, ht4, hv4, hd4, _, _⟩, _⟩, _⟩, _⟩, _⟩ := h'
  refine ⟨?_, forms_of hg4 ht4 hv4 hd4⟩
  have e : t3 = 84 := by
    have := tabT
    rw [hg3] at this
    exact Option.some.inj (ht3.symm.trans this)
  subst e
  rw [tabD] at hd3
  unfold Tab Lib.TabIs
  rw [hv3, ← Lib.cells_of_tab Tryd.underlying84 Tryd.underlying77 tabC1 tabC20 hd3]
noncomputable def laidWorld (os : Os) : World :=
  { World.holding Tryd.prog os ⟨#[], #[], []⟩ with heap := ((((World.holding Tryd.prog os ⟨#[], #[], []⟩).heap.modify 1 (layF Rows.laid_internal_strconv_uint64pow10)).modify 2 (layF Rows.laid_math_bits_deBruijn32tab)).modify 3 (layF Rows.laid_math_bits_deBruijn64tab)).modify 0 (layF Rows.laid_loop_example_g00242_impl_opForms) }
set_option maxRecDepth 100000 in
theorem laidWorld_met (os : Os) (args : Array Value) : laidMetH Tryd.prog Rows.fnExactStepTextRow.laid ((laidWorld os).forCall (fun _ _ => 0) ⟨#[], args, []⟩).memory :=
  laidMetH_of_parts (laidMet_of_run' 8 (by kernel_rfl) (by kernel_rfl)) (by kernel_rfl)
set_option maxHeartbeats 8000000 in
set_option maxRecDepth 100000 in
theorem walk (w : World) (hE : EnvV w) (o0 a0 b0 : Int) (ho0 : (Lit.int .i64 o0).wf = true) (ha0 : (Lit.int .i64 a0).wf = true) (hb0 : (Lit.int .i64 b0).wf = true) :
    Calls Tryd.prog 4 #[.agg #[.int .i64 o0, .int .i64 a0, .int .i64 b0]] w fun e w' => e = .returned (.bool true) ∧ Kept w w' := by
  obtain ⟨hT, hF⟩ := hE
  have k0 : Kept w (w.alloc (.cells #[.int .i64 o0, .int .i64 a0, .int .i64 b0] 35)) := Kept.alloc (Below.refl _ _) _
  have bx := Cells.new w 35 #[.int .i64 o0, .int .i64 a0, .int .i64 b0]
  have HSp : Hid (∀ u, Calls Tryd.prog 10 #[.agg #[.int .i64 o0, .int .i64 a0, .int .i64 b0]] u fun e w' => e = .returned (.string (stepT o0 a0 b0)) ∧ Kept u w') := fun u => spec_StepText_ok u o0 a0 b0 (bounds_i64 ha0) (bounds_i64 hb0)
  have HIm : Hid (∀ u, Kept w u → Calls Tryd.prog 12 #[.agg #[.int .i64 o0, .int .i64 a0, .int .i64 b0]] u fun e w' => e = .returned (.string (stepT o0 a0 b0)) ∧ Kept u w') := fun u hu => impl_StepText_ok u o0 a0 b0 (hF.kept hu) (hT.kept hu) (bounds_i64 ha0) (bounds_i64 hb0)
  obtain ⟨D, hD⟩ : ∃ D, stepT o0 a0 b0 = D := ⟨_, rfl⟩
  rw [hD] at HSp HIm
  have hx' : (D.toList != D.toList) = false := by simp
  clear hD hT hF ho0 ha0 hb0
  go_enter Tryd.func4, Tryd.ntmps4
  go_wp2_with (first
    | (have _tk := kq3; go_at_call 12; refine (HIm.out _ (Kept.trans k0 kq3)).mono ?_; rintro e w4 ⟨rfl, hk4⟩; have kq4 := Kept.trans kq3 hk4)
    | (have _tk := kq2; go_at_call 11; refine (toStep_ok _ o0 a0 b0).mono ?_; rintro e w3 ⟨rfl, hk3⟩; have kq3 := Kept.trans kq2 hk3)
    | (have _tk := kq1; go_at_call 10; refine (HSp.out _).mono ?_; rintro e w2 ⟨rfl, hk2⟩; have kq2 := Kept.trans kq1 hk2; have m := bx.kept kq2; have m0 := m.cell 0; have m1 := m.cell 1; have m2 := m.cell 2)
    | (go_at_call 11; refine (toStep_ok _ o0 a0 b0).mono ?_; rintro e w1 ⟨rfl, kq1⟩))
  go_ret
  exact ⟨rfl, Kept.trans k0 kq4⟩

set_option maxRecDepth 100000 in
theorem lifted (os : Os) (started : os.Started) (H : Type) (enc : TypeId × Value → H) :
    ReturnsInHanded {} Tryd.checked os 4 .any (fun w args => (Rows.fnExactStepTextSpec.pre enc Tryd.prog Tryd.f4 [] false w args ∧ laidMetH Tryd.prog Rows.fnExactStepTextRow.laid w) ∧ sizedMet enc Tryd.prog Tryd.f4 (OpenSpec.ofChange Rows.fnExactStepTextSpec) false w args)
      (Rows.fnExactStepTextSpec.post enc Tryd.prog Tryd.f4 false true false false) := by
  refine returnsInHanded_of_change_and (C := Tryd.checked) (X := fun w _ => laidMetH Tryd.prog Rows.fnExactStepTextRow.laid w) (fun _ _ _ hh h => h.of_heap hh) own started (by kernel_rfl) Tryd.func4
    (ChangeSpec.witness_at (enc := enc) (C := Tryd.checked) (os := os) (X := fun w _ => laidMetH Tryd.prog Rows.fnExactStepTextRow.laid w) false (laidWorld os) #[.agg #[.int .i64 0, .int .i64 0, .int .i64 0]] 8 rfl (by kernel_rfl) (by kernel_rfl) (by kernel_rfl) (by kernel_rfl) (by kernel_rfl) (laidWorld_met os _)) ?_
  intro W base args ds gs before hval0 hW _ _ hL _
  have hval : ∀ (j : Nat) t v, Tryd.f4.params[j]? = some t → args[j]? = some v → Value.okWide Tryd.prog W .any base t v := hval0
  have hW' := hW
  obtain ⟨p, q, hA0, hV, rfl, hfz, hnd⟩ := hW
  have hA : DataW.TrodAll enc Tryd.prog W 0 (fun _ => true) true Tryd.f4.params.toList args.toList ds p := hA0
  rw [Tryd.params4] at hA hval
  obtain ⟨v0, vs0, d0, ds0, p0, q0, hargs0, rfl, rfl, h0, r0⟩ := trodAll_cons hA
  obtain ⟨rfl, rfl, rfl⟩ := trodAll_nil r0
  obtain rfl : args = #[v0] := by cases args; simp_all
  obtain ⟨dv, rfl⟩ : ∃ d, gs = [d] := by
    obtain ⟨_, _, _, _, d, _, e, _⟩ := trodVars_one hV
    exact ⟨d, e⟩
  clear hA0 hval0
  have hlt0 : ∀ x ∈ p0, x.block < W.heap.size := fun x hx => by simpa using hW'.lt x (by simp [hx])
  obtain ⟨o0, a0, b0, rfl, ho0, ha0, hb0⟩ := open_step (hval 0 35 v0 rfl rfl) h0
  refine (walk W (env_of_laid hL) o0 a0 b0 ho0 ha0 hb0).mono fun e W' ⟨he, hk⟩ => ?_
  subst he
  refine ⟨_, rfl, _, _, _, [], p0 ++ [], q, hW', ?_, ?_, Below.trodVars laid hk (by kernel_rfl) hV, hk.frame _, fun h => by cases h⟩
  · exact trodAll_cons_mk (shut_bool Tryd.underlying4 _) trodAll_mk0
  · exact (trodAll_cons_mk (Below.trod laid (by kernel_rfl) (of_decide_eq_true (by kernel_rfl)) h0 hk hlt0) trodAll_mk0)

theorem over : Rows.fnExactStepTextRow.holds Tryd.pinned (OpenSpec.ofChange Rows.fnExactStepTextSpec) :=
  OpenClaim.holds_of_wide 4 Tryd.f4 rfl rfl rfl rfl rfl rfl rfl ⟨rfl, rfl, rfl, rfl, rfl⟩ rfl rfl rfl rfl rfl (by kernel_rfl) Tryd.func4 (by kernel_rfl)
    (of_decide_eq_true (by kernel_rfl)) (by unfold Func.isWrapper; first | (rw [if_pos (by decide +kernel)]; kernel_rfl) | (rw [if_neg (by decide +kernel)]; exact ⟨rfl, rfl⟩))
    (fun os started H enc _ => lifted os started H enc)

theorem proved : Rows.FnExactStepTextCardSaid :=
  Claim7.holds_tied_plain_at .later [] [.data, .data, .data, .data] true (true, Rows.fnExactStepTextCard.stood.harness.2) Rows.fnExactStepTextCard.stood.looks
    over (fun _ h => by cases h) (by kernel_rfl) (fun _ h => by cases h) fnExactStepText_row_tie rfl ⟨rfl, rfl⟩ (by kernel_rfl) rfl
    (fun f fn hf hfn => by
      obtain rfl : f = 4 := Option.some.inj ((show Tryd.prog.funcNamed Rows.fnExactStepTextRow.func = some 4 by kernel_rfl).symm.trans hf) |>.symm
      obtain rfl : fn = Tryd.f4 := (Option.some.inj (Tryd.func4.symm.trans hfn)).symm
      exact ⟨by kernel_rfl, fun j t ht => by
        rw [Tryd.params4] at ht
        have hm : t ∈ [35] := by
          have := List.mem_of_getElem? (l := [35]) (i := j) (a := t) (by simpa using ht)
          exact this
        have hall : ∀ t ∈ [35], Tryd.prog.wantsStandIn t = false := by
          intro t ht
          simp only [List.mem_cons, List.not_mem_nil, or_false] at ht
          rcases ht with rfl <;> kernel_rfl
        exact hall t hm⟩)
    (by kernel_rfl)
#print axioms proved
end Go.Proofs.YtjagnmajnlcahaaDoor.fnExactStepText
