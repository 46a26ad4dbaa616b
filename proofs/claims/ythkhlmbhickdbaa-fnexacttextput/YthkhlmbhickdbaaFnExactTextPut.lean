/-
  The law FnExactTextPut is proved: at every slab and text impl.TextPut answers as its model, it writes into no word of the slab, and its answer owns its memory.
-/
import Derived.Test.YthkhlmbhickdbaaRows
import Derived.Deep.RegionWith
import Derived.Deep.CutRange
import Derived.Test.YthkhlmbhickdbaaFrame
import Derived.Test.YthkhlmbhickdbaaGrpTp
import Derived.Test.YthkhlmbhickdbaaFrame3
namespace Go.Proofs.Ythkhlmbhickdbaa.fnExactTextPut
open Go.ChangeShapes Go.WideShapes Go.ChangeAt Go.RowKit
set_option linter.unusedVariables false

theorem own : ownKnob Try.prog.godebug = none := by kernel_rfl

set_option maxHeartbeats 8000000 in
set_option maxRecDepth 100000 in
theorem walk (w : World) (ao0 : Option Addr) (cap0 : Nat) (zs0 : List Int) (hc0 : zs0.length ≤ cap0) (hm0 : cap0 ≤ maxLen) (hI0 : Ints w ao0 zs0) (s1 : ByteArray) (hm1 : s1.size ≤ maxLen) :
    Calls Try.prog 4 #[.agg #[.slice ao0 zs0.length cap0], .string s1] w fun e w' => e = .returned (.bool true) ∧ Kept w w' := by
  by_cases hs : 1048576 < s1.size
  · have hs' : (1048576 : Int) < (s1.size : Int) := by omega
    go_enter Try.func4, Try.ntmps4
    go_wp2_with fail
    go_ret
    exact ⟨rfl, Kept.alloc (Below.refl _ _) _⟩
  have hs' : ¬ (1048576 : Int) < (s1.size : Int) := by omega
  by_cases hb : 1048576 < zs0.length
  · go_enter Try.func4, Try.ntmps4
    go_wp2_with (go_at_call 7; refine (szSlab_big _ ao0 cap0 zs0.length hb (by unfold maxLen at hm0; omega)).mono ?_; rintro e w1 ⟨rfl, hK1⟩)
    go_ret
    exact ⟨rfl, (Kept.alloc (Below.refl _ _) _).trans hK1⟩
  · have hl : zs0.length ≤ 1048576 := by omega
    obtain ⟨rs, at', ok, hrl, hImp, hSpec⟩ := TextPut_both zs0 s1 hl
    have k0 : Kept w (w.alloc (.cells #[.slice ao0 zs0.length cap0] 24)) := Kept.alloc (Below.refl _ _) _
    have b0 := Cells.new w 24 #[.slice ao0 zs0.length cap0]
    clear hb hs
    go_enter Try.func4, Try.ntmps4
    go_wp2_with fail
    refine (szSlab_ok _ ao0 cap0 zs0.length hl).mono ?_
    rintro e w1 ⟨rfl, hK1⟩
    have k1 := k0.trans hK1
    have c1 := (b0.kept hK1).cell 0
    go_wp2_with fail
    refine (toSlab_ok _ ao0 cap0 zs0 (hI0.kept k1) hl).mono ?_
    rintro e w2 ⟨g2, rfl, hg2, hR2, hK2⟩
    go_wp2_with fail
    refine (hSpec _ _ _ hR2.ints).mono ?_
    rintro e w3 ⟨v3, rfl, o3, hK3⟩
    obtain ⟨la3, lc3, rfl, _⟩ := o3.ints
    have lt3 := o3.block
    have ke : Kept w3 (w3.alloc (.cells #[.slice la3 rs.length lc3] 28)) := Kept.alloc (Below.refl _ _) _
    have x3 := Cells.new w3 28 #[.slice la3 rs.length lc3]
    have k3 := ((k1.trans hK2).trans hK3).trans ke
    have b3 := (((b0.kept hK1).kept hK2).kept hK3).kept ke
    have c3 := b3.cell 0
    have lb3 := b3.lt
    clear c1 hR2 hg2
    go_wp2_with fail
    refine (toSlab_ok _ ao0 cap0 zs0 (hI0.kept k3) hl).mono ?_
    rintro e w4 ⟨g4, rfl, hg4, hR4, hK4⟩
    simp only [World.size_alloc] at hg4
    have ka : Kept w4 (w4.alloc (.cells #[.slice (some ⟨g4, 0, none⟩) zs0.length zs0.length] 28)) := Kept.alloc (Below.refl _ w4) _
    have k4 := (k3.trans hK4).trans ka
    have b4 := (b3.kept hK4).kept ka
    have x3a := (x3.kept hK4).kept ka
    have x4 := Cells.new w4 28 #[.slice (some ⟨g4, 0, none⟩) zs0.length zs0.length]
    have r4 := hR4.kept ka
    have l4 := hR4.lt
    have o3a := ((o3.kept ke).kept hK4).kept ka
    clear c3
    go_wp2_with fail
    refine (hImp _ _ _ r4.ints (Nat.le_refl _)).mono ?_
    rintro e w5 ⟨v5, rfl, o5, hK5⟩
    obtain ⟨la5, lc5, rfl, _⟩ := o5.ints
    have lt5 := o5.block
    simp only [World.size_alloc] at lt5
    have kf : Kept w5 (w5.alloc (.cells #[.slice la5 rs.length lc5] 28)) := Kept.alloc (Below.refl _ _) _
    have x5 := Cells.new w5 28 #[.slice la5 rs.length lc5]
    have k5 := (k4.trans hK5).trans kf
    have b5 := (b4.kept hK5).kept kf
    have x3b := (x3a.kept hK5).kept kf
    have x4b := (x4.kept hK5).kept kf
    have r5 := (r4.kept hK5).kept kf
    have o3b := (o3a.kept hK5).kept kf
    have o5b := o5.kept kf
    obtain ⟨_, _, e3, i3⟩ := o3b.ints
    cases e3
    obtain ⟨_, _, e5, i5⟩ := o5b.ints
    cases e5
    have d3 := x3b.cell 0
    have ld3 := x3b.lt
    have hs5 := hK5.size
    simp only [World.size_alloc] at hs5
    go_wp2_with fail
    refine (eqSlab_ok _ _ _ _ _ rs i5 i3 (by omega)).mono ?_
    rintro e w6 ⟨rfl, hK6⟩
    have k6 := k5.trans hK6
    have b6 := b5.kept hK6
    have x4c := x4b.kept hK6
    have c6 := b6.cell 0
    have d6 := x4c.cell 0
    clear d3 i3 i5
    go_wp2_with fail
    have i6 : Ints w6.drew ao0 zs0 := hI0.kept (k6.drew)
    have r6 : Row w6.drew g4 zs0 := (r5.kept hK6).kept (Below.refl _ w6).drew
    have x6' : Cells w6.drew w4.heap.size 28 #[.slice (some ⟨g4, 0, none⟩) zs0.length zs0.length] := x4c.kept (Below.refl _ w6).drew
    go_cut [62] from 58 to 61 (fun s62 wx => s62 = .bool false ∧ Kept w6 wx)
    case first =>
      go_region_with (first | (go_at_call 9; refine (toSlab_ok _ ao0 cap0 zs0 i6 hl).mono ?_; rintro e w7 ⟨g7, rfl, hg7, hR7, hK7⟩; have x7 := (x6'.kept hK7).cell 0; have r7 := r6.kept hK7) | (go_at_call 11; refine (eqSlab_ok _ _ _ _ _ zs0 r7.ints hR7.ints (by omega)).mono ?_; rintro e w8 ⟨rfl, hK8⟩))
      all_goals (go_wp2_with fail; go_meet; exact ⟨rfl, (Kept.trans (Below.drew (Below.refl _ w6)) hK7).trans hK8⟩)
    case rest =>
    obtain ⟨rfl, hKc⟩ := hcut
    clear i6 r6 x6' c6 d6
    have kc := k6.trans hKc
    have bc := b6.kept hKc
    have x3c := (x3b.kept hK6).kept hKc
    have x4d := x4c.kept hKc
    have x5c := (x5.kept hK6).kept hKc
    have rc := (r5.kept hK6).kept hKc
    have o3c := (o3b.kept hK6).kept hKc
    have o5c := (o5b.kept hK6).kept hKc
    have dx := x4d.cell 0
    have hs4 := hK4.size
    simp only [World.size_alloc] at hs4
    have hw3 := lb3
    simp only [World.size_alloc] at hw3
    have hsc := k5.size
    clear b0 b3 b4 b5 x3 x3a x3b x4 x4b x4c x5 r4 r5 o3 o3a o3b o5 o5b k0 k1 k3 k4 k5 k6
    go_wp2_with fail
    refine (markSlab_ok _ g4 zs0.length zs0 rc hl).mono ?_
    rintro e w8 ⟨rfl, hR8, hG8⟩
    have k8 := kc.grownRow hG8 (fun k e => by cases e; omega)
    have o3d := o3c.grown hG8 (fun k e j hj => by cases e; have := lt3 j hj; omega)
    have o5d := o5c.grown hG8 (fun k e j hj => by cases e; have := lt5 j hj; omega)
    have bd := bc.grown hG8 (by intro e; simp at e; omega)
    have x3d := x3c.grown hG8 (by intro e; simp at e; omega)
    have x5d := x5c.grown hG8 (by intro e; simp at e; omega)
    obtain ⟨_, _, e3, i3⟩ := o3d.ints
    cases e3
    obtain ⟨_, _, e5, i5⟩ := o5d.ints
    cases e5
    have d3 := x3d.cell 0
    have d5 := x5d.cell 0
    clear dx
    go_wp2_with fail
    refine (eqSlab_ok _ _ _ _ _ rs i5 i3 (by omega)).mono ?_
    rintro e w9 ⟨rfl, hK9⟩
    have d5e := (x5d.kept hK9).cell 0
    clear d3 d5 i3 i5
    go_wp2_with fail
    refine (markOwn_ok _ _ _ rs (o5d.kept hK9) hrl).mono ?_
    rintro e w10 ⟨rfl, ⟨_, _, ev, i10⟩, hG10⟩
    cases ev
    have k10 := (k8.trans hK9).grownRow hG10 (fun k e => by have := lt5 k e; omega)
    have o3f := (o3d.kept hK9).grown hG10 (fun k e j hj => by have := lt3 j hj; have := lt5 k e; omega)
    have bf := (bd.kept hK9).grown hG10 (by intro e; have := lt5 _ e.symm; omega)
    have x3f := (x3d.kept hK9).grown hG10 (by intro e; have := lt5 _ e.symm; omega)
    have x5f := (x5d.kept hK9).grown hG10 (by intro e; have := lt5 _ e.symm; omega)
    have f5 := x5f.cell 0
    clear d5e
    go_wp2_with fail
    refine (heldSlab_ok _ _ _ _ i10 hrl).mono ?_
    rintro e w11 ⟨rfl, hK11⟩
    have c11 := (bf.kept hK11).cell 0
    clear f5
    go_wp2_with fail
    refine (toSlab_ok _ ao0 cap0 zs0 (hI0.kept (k10.trans hK11)) hl).mono ?_
    rintro e w12 ⟨g12, rfl, hg12, hR12, hK12⟩
    go_wp2_with fail
    refine (hImp _ _ _ hR12.ints (Nat.le_refl _)).mono ?_
    rintro e w13 ⟨v13, rfl, o13, hK13⟩
    obtain ⟨la13, lc13, rfl, _⟩ := o13.ints
    have kg : Kept w13 (w13.alloc (.cells #[.slice la13 rs.length lc13] 28)) := Kept.alloc (Below.refl _ _) _
    have x3g := (((x3f.kept hK11).kept hK12).kept hK13).kept kg
    have x5g := (((x5f.kept hK11).kept hK12).kept hK13).kept kg
    have i10g := (((i10.kept hK11).kept hK12).kept hK13).kept kg
    obtain ⟨_, _, e3, i3⟩ := ((((o3f.kept hK11).kept hK12).kept hK13).kept kg).ints
    cases e3
    obtain ⟨_, _, e13, i13⟩ := (o13.kept kg).ints
    cases e13
    have g3 := x3g.cell 0
    have lg3 := x3g.lt
    clear c11
    go_wp2_with fail
    refine (eqSlab_ok _ _ _ _ _ rs i13 i3 (by omega)).mono ?_
    rintro e w14 ⟨rfl, hK14⟩
    have g5 := (x5g.kept hK14).cell 0
    clear g3 i3 i13
    go_wp2_with fail
    refine (heldSlab_ok _ _ _ _ (i10g.kept hK14) hrl).mono ?_
    rintro e w15 ⟨rfl, hK15⟩
    go_wp2
    go_ret
    exact ⟨rfl, (((((k10.trans hK11).trans hK12).trans hK13).trans kg).trans hK14).trans hK15⟩

set_option maxRecDepth 100000 in
theorem lifted (os : Os) (started : os.Started) (H : Type) (enc : TypeId × Value → H) :
    ReturnsInHanded {} Try.checked os 4 .any (Rows.fnExactTextPutSpec.pre6 enc Try.prog Try.f4 Rows.fnExactTextPutRow.domain false) (Rows.fnExactTextPutSpec.post enc Try.prog Try.f4 false true false false) := by
  refine returnsInHanded_of_change (C := Try.checked) own started (by kernel_rfl) Try.func4
    (ChangeSpec.witness6 (enc := enc) (C := Try.checked) false ⟨#[], #[.agg #[.slice none 0 0], .string ⟨#[]⟩], []⟩ 8 (by kernel_rfl) (by kernel_rfl) (by kernel_rfl) (by kernel_rfl)) ?_
  intro W base args ds gs before hval0 hW hcnd _
  have hval : ∀ (j : Nat) t v, Try.f4.params[j]? = some t → args[j]? = some v → Value.okWide Try.prog W .any base t v := hval0
  have hW' := hW
  obtain ⟨p, q, hA0, hV, rfl, hfz, hnd⟩ := hW
  have hA : DataW.TrodAll enc Try.prog W 0 (fun _ => true) true Try.f4.params.toList args.toList ds p := hA0
  rw [Try.params4] at hA hval
  obtain ⟨v0, vs0, d0, ds0, p0, q0, hargs0, rfl, rfl, h0, r0⟩ := trodAll_cons hA
  obtain ⟨v1, vs1, d1, ds1, p1, q1, hargs1, rfl, rfl, h1, r1⟩ := trodAll_cons r0
  obtain ⟨rfl, rfl, rfl⟩ := trodAll_nil r1
  obtain rfl : args = #[v0, v1] := by cases args; simp_all
  obtain ⟨rfl, rfl⟩ := trodVars_none hV
  clear hA0 hval0
  simp only [List.append_nil] at hW'
  have hlt0 : ∀ x ∈ p0, x.block < W.heap.size := fun x hx => by simpa using hW'.lt x (by simp [hx])
  have hlt1 : ∀ x ∈ p1, x.block < W.heap.size := fun x hx => by simpa using hW'.lt x (by simp [hx])
  obtain ⟨ao0, cap0, zs0, rfl, hc0, hm0, hI0⟩ := open_slab (hval 0 24 v0 rfl rfl) h0
  obtain ⟨s1, rfl, hm1⟩ := open_text (hval 1 9 v1 rfl rfl) h1
  refine (walk W ao0 cap0 zs0 hc0 hm0 hI0 s1 hm1).mono fun e W' ⟨he, hk⟩ => ?_
  subst he
  refine ⟨_, rfl, _, _, _, [], p0 ++ (p1 ++ []), [], hW', ?_, ?_, rfl, hk.frame _, fun h => by cases h⟩
  · exact trodAll_cons_mk (shut_bool Try.underlying4 _) trodAll_mk0
  · exact (trodAll_cons_mk (Below.trod laid (by kernel_rfl) (of_decide_eq_true (by kernel_rfl)) h0 hk hlt0) (trodAll_cons_mk (Below.trod laid (by kernel_rfl) (of_decide_eq_true (by kernel_rfl)) h1 hk hlt1) trodAll_mk0))

theorem over : Rows.fnExactTextPutRow.holds Try.pinned (OpenSpec.ofChange Rows.fnExactTextPutSpec) :=
  OpenClaim.holds_of_wide 4 Try.f4 rfl rfl rfl rfl rfl rfl rfl ⟨rfl, rfl, rfl, rfl, rfl⟩ rfl rfl rfl rfl rfl (by kernel_rfl) Try.func4 (by kernel_rfl)
    (of_decide_eq_true (by kernel_rfl)) (by unfold Func.isWrapper; first | (rw [if_pos (by decide +kernel)]; kernel_rfl) | (rw [if_neg (by decide +kernel)]; exact ⟨rfl, rfl⟩))
    (fun os started H enc _ => lifted os started H enc)

theorem proved : Rows.FnExactTextPutSaid :=
  over
#print axioms proved
end Go.Proofs.Ythkhlmbhickdbaa.fnExactTextPut
