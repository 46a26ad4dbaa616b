/-
  The law FnExactLook is proved: at every slab, object and name impl.Look answers as its model, and it writes into no word of the slab.
-/
import Derived.Test.YthkhlmbhickdbaaRows
import Derived.Deep.RegionWith
import Derived.Test.YthkhlmbhickdbaaFrame
import Derived.Test.YthkhlmbhickdbaaHelpL
import Derived.Test.YthkhlmbhickdbaaGrpLt
namespace Go.Proofs.Ythkhlmbhickdbaa.fnExactLook
open Go.ChangeShapes Go.WideShapes Go.ChangeAt Go.RowKit
set_option linter.unusedVariables false

theorem own : ownKnob Try.prog.godebug = none := by kernel_rfl

set_option maxHeartbeats 2000000 in
set_option maxRecDepth 100000 in
theorem walk (w : World) (ao0 : Option Addr) (cap0 : Nat) (zs0 : List Int) (hc0 : zs0.length ≤ cap0) (hm0 : cap0 ≤ maxLen) (hI0 : Ints w ao0 zs0) (a1 : Int) (w1 : (Lit.int .i64 a1).wf = true) (a2 : Int) (w2 : (Lit.int .i64 a2).wf = true) :
    Calls Try.prog 5 #[.agg #[.slice ao0 zs0.length cap0], .int .i64 a1, .int .i64 a2] w fun e w' => e = .returned (.bool true) ∧ Kept w w' := by
  by_cases hb : 1048576 < zs0.length
  · go_enter Try.func5, Try.ntmps5
    go_wp2_with (go_at_call 7; refine (szSlab_big _ ao0 cap0 zs0.length hb (by unfold maxLen at hm0; omega)).mono ?_; rintro e w1 ⟨rfl, hK1⟩)
    go_ret
    exact ⟨rfl, (Kept.alloc (Below.refl _ _) _).trans hK1⟩
  · have hl : zs0.length ≤ 1048576 := by omega
    have k0 : Kept w (w.alloc (.cells #[.slice ao0 zs0.length cap0] 24)) := Kept.alloc (Below.refl _ _) _
    have b0 := Cells.new w 24 #[.slice ao0 zs0.length cap0]
    have hv1 := bounds_i64 w1
    have hv2 := bounds_i64 w2
    obtain ⟨x, y, exy⟩ := lookV_tuple zs0 a1 a2
    have hSp := fun (u : World) (ao : Option Addr) (cap : Nat) (hu : Ints u ao zs0) => spec_Look_ok u ao cap zs0 a1 a2 hu hl hv1 hv2
    have hIm := fun (u : World) (ao : Option Addr) (cap : Nat) (hu : Ints u ao zs0) => impl_Look_ok u ao cap zs0 a1 a2 hu hl hv1 hv2
    rw [exy] at hSp hIm
    clear hb w1 w2 exy
    go_enter Try.func5, Try.ntmps5
    go_wp2_with fail
    refine (szSlab_ok _ ao0 cap0 zs0.length hl).mono ?_
    rintro e w1 ⟨rfl, hK1⟩
    have k1 := k0.trans hK1
    have c1 := (b0.kept hK1).cell 0
    go_wp2_with fail
    refine (toSlab_ok _ ao0 cap0 zs0 (hI0.kept k1) hl).mono ?_
    rintro e w2 ⟨g2, rfl, hg2, hR2, hK2⟩
    go_wp2_with fail
    refine (hSp _ _ _ hR2.ints).mono ?_
    rintro e w3 ⟨rfl, hK3⟩
    have k3 := (k1.trans hK2).trans hK3
    have b3 := ((b0.kept hK1).kept hK2).kept hK3
    have c3 := b3.cell 0
    clear c1 hR2 hg2
    go_wp2_with fail
    refine (toSlab_ok _ ao0 cap0 zs0 (hI0.kept k3) hl).mono ?_
    rintro e w4 ⟨g4, rfl, hg4, hR4, hK4⟩
    have k4 := (k3.trans hK4).alloc (.cells #[.slice (some ⟨g4, 0, none⟩) zs0.length zs0.length] 28)
    have b4 := (b3.kept hK4).alloc (.cells #[.slice (some ⟨g4, 0, none⟩) zs0.length zs0.length] 28)
    have x4 := Cells.new w4 28 #[.slice (some ⟨g4, 0, none⟩) zs0.length zs0.length]
    have r4 := hR4.kept (Kept.alloc (Below.refl _ w4) (.cells #[.slice (some ⟨g4, 0, none⟩) zs0.length zs0.length] 28))
    clear c3
    go_wp2_with fail
    refine (hIm _ _ _ r4.ints).mono ?_
    rintro e w5 ⟨rfl, hK5⟩
    have k5 := k4.trans hK5
    have c5 := (b4.kept hK5).cell 0
    have x5 := (x4.kept hK5).cell 0
    have r5 := r4.kept hK5
    have n1 : (x != x) = false := by simp
    have n2 : (y != y) = false := by simp
    go_wp2_with fail
    have i5 : Ints w5.drew ao0 zs0 := hI0.kept (k5.drew)
    have r5' : Row w5.drew g4 zs0 := r5.kept (Below.refl _ w5).drew
    have x5' : Cells w5.drew w4.heap.size 28 #[.slice (some ⟨g4, 0, none⟩) zs0.length zs0.length] := (x4.kept hK5).kept (Below.refl _ w5).drew
    go_region_with (first | (go_at_call 9; refine (toSlab_ok _ ao0 cap0 zs0 i5 hl).mono ?_; rintro e w6 ⟨g6, rfl, hg6, hR6, hK6⟩; have x6 := (x5'.kept hK6).cell 0; have r6 := r5'.kept hK6) | (go_at_call 11; refine (eqSlab_ok _ _ _ _ _ zs0 r6.ints hR6.ints (by omega)).mono ?_; rintro e w7 ⟨rfl, hK7⟩))
    all_goals go_wp2
    all_goals go_ret
    all_goals exact ⟨rfl, (Kept.trans k5.drew hK6).trans hK7⟩

set_option maxRecDepth 100000 in
theorem lifted (os : Os) (started : os.Started) (H : Type) (enc : TypeId × Value → H) :
    ReturnsInHanded {} Try.checked os 5 .any (Rows.fnExactLookSpec.pre6 enc Try.prog Try.f5 Rows.fnExactLookRow.domain false) (Rows.fnExactLookSpec.post enc Try.prog Try.f5 false true false false) := by
  refine returnsInHanded_of_change (C := Try.checked) own started (by kernel_rfl) Try.func5
    (ChangeSpec.witness6 (enc := enc) (C := Try.checked) false ⟨#[], #[.agg #[.slice none 0 0], .int .i64 0, .int .i64 0], []⟩ 8 (by kernel_rfl) (by kernel_rfl) (by kernel_rfl) (by kernel_rfl)) ?_
  intro W base args ds gs before hval0 hW hcnd _
  have hval : ∀ (j : Nat) t v, Try.f5.params[j]? = some t → args[j]? = some v → Value.okWide Try.prog W .any base t v := hval0
  have hW' := hW
  obtain ⟨p, q, hA0, hV, rfl, hfz, hnd⟩ := hW
  have hA : DataW.TrodAll enc Try.prog W 0 (fun _ => true) true Try.f5.params.toList args.toList ds p := hA0
  rw [Try.params5] at hA hval
  obtain ⟨v0, vs0, d0, ds0, p0, q0, hargs0, rfl, rfl, h0, r0⟩ := trodAll_cons hA
  obtain ⟨v1, vs1, d1, ds1, p1, q1, hargs1, rfl, rfl, h1, r1⟩ := trodAll_cons r0
  obtain ⟨v2, vs2, d2, ds2, p2, q2, hargs2, rfl, rfl, h2, r2⟩ := trodAll_cons r1
  obtain ⟨rfl, rfl, rfl⟩ := trodAll_nil r2
  obtain rfl : args = #[v0, v1, v2] := by cases args; simp_all
  obtain ⟨rfl, rfl⟩ := trodVars_none hV
  clear hA0 hval0
  simp only [List.append_nil] at hW'
  have hlt0 : ∀ x ∈ p0, x.block < W.heap.size := fun x hx => by simpa using hW'.lt x (by simp [hx])
  have hlt1 : ∀ x ∈ p1, x.block < W.heap.size := fun x hx => by simpa using hW'.lt x (by simp [hx])
  have hlt2 : ∀ x ∈ p2, x.block < W.heap.size := fun x hx => by simpa using hW'.lt x (by simp [hx])
  obtain ⟨ao0, cap0, zs0, rfl, hc0, hm0, hI0⟩ := open_slab (hval 0 24 v0 rfl rfl) h0
  obtain ⟨a1, rfl, ed1, ep1, w1⟩ := open_int Try.underlying3 (hval 1 3 v1 rfl rfl) h1
  obtain ⟨a2, rfl, ed2, ep2, w2⟩ := open_int Try.underlying3 (hval 2 3 v2 rfl rfl) h2
  refine (walk W ao0 cap0 zs0 hc0 hm0 hI0 a1 w1 a2 w2).mono fun e W' ⟨he, hk⟩ => ?_
  subst he
  refine ⟨_, rfl, _, _, _, [], p0 ++ (p1 ++ (p2 ++ [])), [], hW', ?_, ?_, rfl, hk.frame _, fun h => by cases h⟩
  · exact trodAll_cons_mk (shut_bool Try.underlying4 _) trodAll_mk0
  · exact (trodAll_cons_mk (Below.trod laid (by kernel_rfl) (of_decide_eq_true (by kernel_rfl)) h0 hk hlt0) (trodAll_cons_mk (Below.trod laid (by kernel_rfl) (of_decide_eq_true (by kernel_rfl)) h1 hk hlt1) (trodAll_cons_mk (Below.trod laid (by kernel_rfl) (of_decide_eq_true (by kernel_rfl)) h2 hk hlt2) trodAll_mk0)))

theorem over : Rows.fnExactLookRow.holds Try.pinned (OpenSpec.ofChange Rows.fnExactLookSpec) :=
  OpenClaim.holds_of_wide 5 Try.f5 rfl rfl rfl rfl rfl rfl rfl ⟨rfl, rfl, rfl, rfl, rfl⟩ rfl rfl rfl rfl rfl (by kernel_rfl) Try.func5 (by kernel_rfl)
    (of_decide_eq_true (by kernel_rfl)) (by unfold Func.isWrapper; first | (rw [if_pos (by decide +kernel)]; kernel_rfl) | (rw [if_neg (by decide +kernel)]; exact ⟨rfl, rfl⟩))
    (fun os started H enc _ => lifted os started H enc)

theorem proved : Rows.FnExactLookSaid :=
  over
#print axioms proved
end Go.Proofs.Ythkhlmbhickdbaa.fnExactLook
