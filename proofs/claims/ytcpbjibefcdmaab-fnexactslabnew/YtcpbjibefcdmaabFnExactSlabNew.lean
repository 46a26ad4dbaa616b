/-
  The law FnExactSlabNew is proved: at every integer impl.SlabNew answers as its model, and its answer owns its memory.
-/
import Derived.Test.YtcpbjibefcdmaabRows
import Derived.Test.YtcpbjibefcdmaabFrame
import Derived.Test.YtcpbjibefcdmaabSlabN
namespace Go.Proofs.Ytcpbjibefcdmaab.fnExactSlabNew
open Go.ChangeShapes Go.WideShapes Go.ChangeAt Go.RowKit
set_option linter.unusedVariables false

theorem own : ownKnob Try.prog.godebug = none := by kernel_rfl

set_option maxHeartbeats 4000000 in
set_option maxRecDepth 100000 in
theorem walk (w : World) (a0 : Int) (w0 : (Lit.int .i64 a0).wf = true) :
    Calls Try.prog 8 #[.int .i64 a0] w fun e w' => e = .returned (.bool true) ∧ Kept w w' := by
  have hb := bounds_i64 w0
  by_cases hr : 2 ≤ a0 ∧ a0 ≤ 2000
  · obtain ⟨n, rfl⟩ : ∃ n : Nat, a0 = n := ⟨a0.toNat, by omega⟩
    have h1 : 2 ≤ n := by omega
    have h2 : n ≤ 2000 := by omega
    clear hr w0 hb
    go_enter Try.func8, Try.ntmps8
    go_wp2_with fail
    refine (spec_SlabNew_yes _ n h1 h2).mono ?_
    rintro e w1 ⟨g1, rfl, hg1, hR1, hK1⟩
    have ka : Kept w1 (w1.alloc (.cells #[.slice (some ⟨g1, 0, none⟩) n n] 31)) := Kept.alloc (Below.refl _ w1) _
    have x1 := Cells.new w1 31 #[.slice (some ⟨g1, 0, none⟩) n n]
    have r1 := hR1.kept ka
    have k1 := hK1.trans ka
    have l1 := hR1.lt
    go_wp2_with fail
    refine (impl_SlabNew_yes _ n h1 h2).mono ?_
    rintro e w2 ⟨g2, rfl, hg2, hR2, hK2⟩
    have kb : Kept w2 (w2.alloc (.cells #[.slice (some ⟨g2, 0, none⟩) n n] 31)) := Kept.alloc (Below.refl _ w2) _
    have x2 := Cells.new w2 31 #[.slice (some ⟨g2, 0, none⟩) n n]
    have x1b := (x1.kept hK2).kept kb
    have r1b := (r1.kept hK2).kept kb
    have r2 := hR2.kept kb
    have k2 := (k1.trans hK2).trans kb
    have l2 := hR2.lt
    have s2 := hK2.size
    simp only [World.size_alloc] at hg2 s2
    have c1 := x1b.cell 0
    have lx := x1b.lt
    go_wp2_with fail
    have he := eqSlab_ok _ _ _ n n (newL n) r2.ints r1b.ints (by rw [newL_len]; omega)
    rw [newL_len] at he
    refine he.mono ?_
    rintro e w3 ⟨rfl, hK3⟩
    have c2 := (x2.kept hK3).cell 0
    have r3 := r2.kept hK3
    clear c1 he
    go_wp2_with fail
    have hm := markSlab_ok _ g2 n (newL n) r3 (by rw [newL_len]; omega)
    rw [newL_len] at hm
    refine hm.mono ?_
    rintro e w4 ⟨rfl, hR4, hG4⟩
    have k4 := (k2.trans hK3).grownRow hG4 (fun k e => by cases e; have := k1.size; simp at this; omega)
    have x2d := (x2.kept hK3).grown hG4 (by intro e; simp at e; omega)
    have x1d := (x1b.kept hK3).grown hG4 (by intro e; simp at e; omega)
    have r1d := (r1b.kept hK3).grown hG4 (by intro e; simp at e; omega)
    have c4 := x2d.cell 0
    clear c2 hm
    go_wp2_with fail
    refine (heldSlab_ok _ _ n n hR4.ints (by omega)).mono ?_
    rintro e w5 ⟨rfl, hK5⟩
    clear c4
    go_wp2_with fail
    refine (impl_SlabNew_yes _ n h1 h2).mono ?_
    rintro e w6 ⟨g6, rfl, hg6, hR6, hK6⟩
    have kc : Kept w6 (w6.alloc (.cells #[.slice (some ⟨g6, 0, none⟩) n n] 31)) := Kept.alloc (Below.refl _ w6) _
    have x1e := ((x1d.kept hK5).kept hK6).kept kc
    have r1e := ((r1d.kept hK5).kept hK6).kept kc
    have x2e := ((x2d.kept hK5).kept hK6).kept kc
    have r2e := ((hR4.kept hK5).kept hK6).kept kc
    have r6 := hR6.kept kc
    have c6 := x1e.cell 0
    have l6 := x1e.lt
    go_wp2_with fail
    have he := eqSlab_ok _ _ _ n n (newL n) r6.ints r1e.ints (by rw [newL_len]; omega)
    rw [newL_len] at he
    refine he.mono ?_
    rintro e w7 ⟨rfl, hK7⟩
    have c7 := (x2e.kept hK7).cell 0
    clear c6 he
    go_wp2_with fail
    refine (heldSlab_ok _ _ n n (r2e.kept hK7).ints (by omega)).mono ?_
    rintro e w8 ⟨rfl, hK8⟩
    go_wp2
    go_ret
    exact ⟨rfl, ((((k4.trans hK5).trans hK6).trans kc).trans hK7).trans hK8⟩
  · have hn : a0 < 2 ∨ 2000 < a0 := by omega
    clear hr w0
    go_enter Try.func8, Try.ntmps8
    go_wp2_with fail
    refine (spec_SlabNew_no _ a0 hn).mono ?_
    rintro e w1 ⟨rfl, hK1⟩
    have x1 := Cells.new w1 31 #[.slice none 0 0]
    have k1 := hK1.alloc (.cells #[.slice none 0 0] 31)
    go_wp2_with fail
    refine (impl_SlabNew_no _ a0 hn).mono ?_
    rintro e w2 ⟨rfl, hK2⟩
    have kb : Kept w2 (w2.alloc (.cells #[.slice none 0 0] 31)) := Kept.alloc (Below.refl _ w2) _
    have x2 := Cells.new w2 31 #[.slice none 0 0]
    have x1b := (x1.kept hK2).kept kb
    have k2 := (k1.trans hK2).trans kb
    have c1 := x1b.cell 0
    have lx := x1b.lt
    go_wp2_with fail
    refine (eqSlab_ok _ none none 0 0 [] (ints_nil _ _) (ints_nil _ _) (by simp)).mono ?_
    rintro e w3 ⟨rfl, hK3⟩
    have c2 := (x2.kept hK3).cell 0
    clear c1
    go_wp2_with fail
    refine (markSlab_nil _ none 0).mono ?_
    rintro e w4 ⟨rfl, hK4⟩
    have c4 := ((x2.kept hK3).kept hK4).cell 0
    clear c2
    go_wp2_with fail
    refine (heldSlab_ok _ none 0 0 (ints_nil _ _) (by simp)).mono ?_
    rintro e w5 ⟨rfl, hK5⟩
    clear c4
    go_wp2_with fail
    refine (impl_SlabNew_no _ a0 hn).mono ?_
    rintro e w6 ⟨rfl, hK6⟩
    have kc : Kept w6 (w6.alloc (.cells #[.slice none 0 0] 31)) := Kept.alloc (Below.refl _ w6) _
    have x1e := ((((x1b.kept hK3).kept hK4).kept hK5).kept hK6).kept kc
    have x2e := ((((x2.kept hK3).kept hK4).kept hK5).kept hK6).kept kc
    have c6 := x1e.cell 0
    have l6 := x1e.lt
    go_wp2_with fail
    refine (eqSlab_ok _ none none 0 0 [] (ints_nil _ _) (ints_nil _ _) (by simp)).mono ?_
    rintro e w7 ⟨rfl, hK7⟩
    have c7 := (x2e.kept hK7).cell 0
    clear c6
    go_wp2_with fail
    refine (heldSlab_ok _ none 0 0 (ints_nil _ _) (by simp)).mono ?_
    rintro e w8 ⟨rfl, hK8⟩
    go_wp2
    go_ret
    exact ⟨rfl, ((((((k2.trans hK3).trans hK4).trans hK5).trans hK6).trans kc).trans hK7).trans hK8⟩

set_option maxRecDepth 100000 in
theorem lifted (os : Os) (started : os.Started) (H : Type) (enc : TypeId × Value → H) :
    ReturnsInHanded {} Try.checked os 8 .any (Rows.fnExactSlabNewSpec.pre6 enc Try.prog Try.f8 Rows.fnExactSlabNewRow.domain false) (Rows.fnExactSlabNewSpec.post enc Try.prog Try.f8 false true false false) := by
  refine returnsInHanded_of_change (C := Try.checked) own started (by kernel_rfl) Try.func8
    (ChangeSpec.witness6 (enc := enc) (C := Try.checked) false ⟨#[], #[.int .i64 0], []⟩ 8 (by kernel_rfl) (by kernel_rfl) (by kernel_rfl) (by kernel_rfl)) ?_
  intro W base args ds gs before hval0 hW hcnd _
  have hval : ∀ (j : Nat) t v, Try.f8.params[j]? = some t → args[j]? = some v → Value.okWide Try.prog W .any base t v := hval0
  have hW' := hW
  obtain ⟨p, q, hA0, hV, rfl, hfz, hnd⟩ := hW
  have hA : DataW.TrodAll enc Try.prog W 0 (fun _ => true) true Try.f8.params.toList args.toList ds p := hA0
  rw [Try.params8] at hA hval
  obtain ⟨v0, vs0, d0, ds0, p0, q0, hargs0, rfl, rfl, h0, r0⟩ := trodAll_cons hA
  obtain ⟨rfl, rfl, rfl⟩ := trodAll_nil r0
  obtain rfl : args = #[v0] := by cases args; simp_all
  obtain ⟨rfl, rfl⟩ := trodVars_none hV
  clear hA0 hval0
  simp only [List.append_nil] at hW'
  have hlt0 : ∀ x ∈ p0, x.block < W.heap.size := fun x hx => by simpa using hW'.lt x (by simp [hx])
  obtain ⟨a0, rfl, ed0, ep0, w0⟩ := open_int Try.underlying3 (hval 0 3 v0 rfl rfl) h0
  refine (walk W a0 w0).mono fun e W' ⟨he, hk⟩ => ?_
  subst he
  refine ⟨_, rfl, _, _, _, [], p0 ++ [], [], hW', ?_, ?_, rfl, hk.frame _, fun h => by cases h⟩
  · exact trodAll_cons_mk (shut_bool Try.underlying4 _) trodAll_mk0
  · exact (trodAll_cons_mk (Below.trod laid (by kernel_rfl) (of_decide_eq_true (by kernel_rfl)) h0 hk hlt0) trodAll_mk0)

theorem over : Rows.fnExactSlabNewRow.holds Try.pinned (OpenSpec.ofChange Rows.fnExactSlabNewSpec) :=
  OpenClaim.holds_of_wide 8 Try.f8 rfl rfl rfl rfl rfl rfl rfl ⟨rfl, rfl, rfl, rfl, rfl⟩ rfl rfl rfl rfl rfl (by kernel_rfl) Try.func8 (by kernel_rfl)
    (of_decide_eq_true (by kernel_rfl)) (by unfold Func.isWrapper; first | (rw [if_pos (by decide +kernel)]; kernel_rfl) | (rw [if_neg (by decide +kernel)]; exact ⟨rfl, rfl⟩))
    (fun os started H enc _ => lifted os started H enc)

theorem proved : Rows.FnExactSlabNewSaid :=
  over
#print axioms proved
end Go.Proofs.Ytcpbjibefcdmaab.fnExactSlabNew
