/-
  The law FnExactReach is proved: at every slab and list of values impl.Reach answers as its model, it writes into neither, and its answer owns its memory.
-/
import Derived.Test.YtblonbdagidfjaaRows
import Derived.Test.YtblonbdagidfjaaFrame
import Derived.Test.YtblonbdagidfjaaHelpN
import Derived.Test.YtblonbdagidfjaaFrame2
import Derived.Test.YtblonbdagidfjaaNumC
import Derived.Deep.RegionWith
import Derived.Deep.CutRange
namespace Go.Proofs.Ytblonbdagidfjaa.fnExactReach
open Go.ChangeShapes Go.WideShapes Go.ChangeAt Go.RowKit
set_option linter.unusedVariables false

theorem own : ownKnob Try.prog.godebug = none := by kernel_rfl

theorem reach_le (zs rs : List Int) : (reachL zs rs).length ≤ zs.length := by
  unfold reachL
  split
  · rename_i h
    have h1 := (ordL_met h).len
    have h2 := sortF_len (ordL zs rs) []
    unfold sortL
    simp only [List.length_nil, Nat.zero_add] at h2
    omega
  · simp
set_option maxHeartbeats 4000000 in
set_option maxRecDepth 100000 in
theorem walk (w : World) (ao0 : Option Addr) (cap0 : Nat) (zs0 : List Int) (hc0 : zs0.length ≤ cap0) (hm0 : cap0 ≤ maxLen) (hI0 : Ints w ao0 zs0) (ao1 : Option Addr) (cap1 : Nat) (zs1 : List Int) (hc1 : zs1.length ≤ cap1) (hm1 : cap1 ≤ maxLen) (hI1 : Ints w ao1 zs1) :
    Calls Try.prog 3 #[.agg #[.slice ao0 zs0.length cap0], .slice ao1 zs1.length cap1] w fun e w' => e = .returned (.bool true) ∧ Kept w w' := by
  by_cases hr : 1048576 < zs1.length
  · go_enter Try.func3, Try.ntmps3
    go_wp2
    go_ret
    exact ⟨rfl, Kept.alloc (Below.refl _ _) _⟩
  by_cases hb : 1048576 < zs0.length
  · go_enter Try.func3, Try.ntmps3
    go_wp2_with (go_at_call 6; refine (szSlab_big _ ao0 cap0 zs0.length hb (by unfold maxLen at hm0; omega)).mono ?_; rintro e w1 ⟨rfl, hK1⟩)
    go_ret
    exact ⟨rfl, (Kept.alloc (Below.refl _ _) _).trans hK1⟩
  · have hl : zs0.length ≤ 1048576 := by omega
    have hrl : zs1.length ≤ 1048576 := by omega
    have hpl := reach_le zs0 zs1
    obtain ⟨rs, hrs⟩ : ∃ rs, reachL zs0 zs1 = rs := ⟨_, rfl⟩
    have hSpec := fun (w : World) (ao ro : Option Addr) (cap rc : Nat) (hI : Ints w ao zs0) (hR : Ints w ro zs1) => spec_Reach_ok w ao ro cap rc zs0 zs1 hI hl hR hrl
    have hImp := fun (w : World) (ao ro : Option Addr) (cap rc : Nat) (hI : Ints w ao zs0) (hR : Ints w ro zs1) => impl_Reach_ok w ao ro cap rc zs0 zs1 hI hl hR hrl
    rw [hrs] at hpl hSpec hImp
    clear hrs
    have k0 : Kept w (w.alloc (.cells #[.slice ao0 zs0.length cap0] 24)) := Kept.alloc (Below.refl _ _) _
    have b0 := Cells.new w 24 #[.slice ao0 zs0.length cap0]
    clear hb hr
    go_enter Try.func3, Try.ntmps3
    go_wp2_with fail
    refine (szSlab_ok _ ao0 cap0 zs0.length hl).mono ?_
    rintro e w1 ⟨rfl, hK1⟩
    have k1 := k0.trans hK1
    have c1 := (b0.kept hK1).cell 0
    go_wp2_with fail
    refine (toSlab_ok _ ao0 cap0 zs0 (hI0.kept k1) hl).mono ?_
    rintro e w2 ⟨g2, rfl, hg2, hR2, hK2⟩
    go_wp2_with fail
    refine (toIntS_ok _ ao1 cap1 zs1 (hI1.kept (k1.trans hK2)) hrl).mono ?_
    rintro e w2b ⟨rfl, hR2b, hK2b⟩
    go_wp2_with fail
    refine (hSpec _ _ _ _ _ (hR2.kept hK2b).ints hR2b.ints).mono ?_
    rintro e w3 ⟨v3, rfl, o3, hK3⟩
    have k3 := ((k1.trans hK2).trans hK2b).trans hK3
    have b3 := (((b0.kept hK1).kept hK2).kept hK2b).kept hK3
    have c3 := b3.cell 0
    obtain ⟨la3, lc3, rfl, _⟩ := o3.ints
    have lt3 := o3.2.lt
    have h3w : w.heap.size + 1 ≤ w2b.heap.size := by
      have h1 := ((b0.kept hK1).kept hK2).lt
      have h2 := hK2b.size
      omega
    clear c1 hR2 hR2b hg2
    go_wp2_with fail
    refine (toSlab_ok _ ao0 cap0 zs0 (hI0.kept k3) hl).mono ?_
    rintro e w4 ⟨g4, rfl, hg4, hR4, hK4⟩
    have ka : Kept w4 (w4.alloc (.cells #[.slice (some ⟨g4, 0, none⟩) zs0.length zs0.length] 27)) := Kept.alloc (Below.refl _ w4) _
    have k4 := (k3.trans hK4).trans ka
    have b4 := (b3.kept hK4).kept ka
    have x4 := Cells.new w4 27 #[.slice (some ⟨g4, 0, none⟩) zs0.length zs0.length]
    have r4 := hR4.kept ka
    have l4 := hR4.lt
    clear c3
    go_wp2_with fail
    refine (toIntS_ok _ ao1 cap1 zs1 (hI1.kept k4) hrl).mono ?_
    rintro e w4b ⟨rfl, hR4b, hK4b⟩
    simp only [World.size_alloc] at hR4b
    have x4b := (x4.kept hK4b).cell 0
    have l4b := hR4b.lt
    go_wp2_with fail
    refine (hImp _ _ _ _ _ (r4.kept hK4b).ints hR4b.ints).mono ?_
    rintro e w5 ⟨v5, rfl, o5, hK5⟩
    obtain ⟨la5, lc5, rfl, i5⟩ := o5.ints
    have lt5 := o5.2.lt
    have k45 := hK4b.trans hK5
    have k5 := k4.trans k45
    have r5 := r4.kept k45
    have rb5 := hR4b.kept hK5
    have b5 := b4.kept k45
    have xx5 := x4.kept k45
    have o3' := ((o3.kept hK4.grown (fun _ h => by cases h)).kept ka.grown (fun _ h => by cases h)).kept k45.grown (fun _ h => by cases h)
    have i3 : Ints w5 la3 rs := by
      obtain ⟨a', c', e', i'⟩ := o3'.ints
      cases e'; exact i'
    clear x4b hR4 hR4b
    go_wp2_with fail
    refine (eqIntS_ok _ _ _ _ _ rs i5 i3 (by omega)).mono ?_
    rintro e w6 ⟨rfl, hK6⟩
    have k6 := k5.trans hK6
    have c6 := (b5.kept hK6).cell 0
    have x6 := (xx5.kept hK6).cell 0
    go_wp2_with fail
    have i6 : Ints w6.drew ao0 zs0 := hI0.kept (k6.drew)
    have r6 : Row w6.drew g4 zs0 := (r5.kept hK6).kept (Below.refl _ w6).drew
    have x6' : Cells w6.drew w4.heap.size 27 #[.slice (some ⟨g4, 0, none⟩) zs0.length zs0.length] := (xx5.kept hK6).kept (Below.refl _ w6).drew
    go_cut [42] from 38 to 41 (fun s35 wx => s35 = .bool false ∧ Kept w6 wx)
    case first =>
      go_region_with (first | (go_at_call 8; refine (toSlab_ok _ ao0 cap0 zs0 i6 hl).mono ?_; rintro e w7 ⟨g7, rfl, hg7, hR7, hK7⟩; have x7 := (x6'.kept hK7).cell 0; have r7 := r6.kept hK7) | (go_at_call 12; refine (eqSlab_ok _ _ _ _ _ zs0 r7.ints hR7.ints (by omega)).mono ?_; rintro e w8 ⟨rfl, hK8⟩))
      all_goals (go_wp2_with fail; go_meet; exact ⟨rfl, (Kept.trans (Below.drew (Below.refl _ w6)) hK7).trans hK8⟩)
    case rest =>
    obtain ⟨rfl, hKc⟩ := hcut
    clear i6 r6 x6' c6 x6
    have kc := k6.trans hKc
    have rbc := (rb5.kept hK6).kept hKc
    go_wp2_with fail
    refine (toIntS_ok _ ao1 cap1 zs1 (hI1.kept kc) hrl).mono ?_
    rintro e w7 ⟨rfl, hR7, hK7⟩
    go_wp2_with fail
    refine (eqIntS_ok _ _ _ _ _ zs1 (rbc.kept hK7).ints hR7.ints (by omega)).mono ?_
    rintro e w7b ⟨rfl, hK7b⟩
    have hK7c := hK7.trans hK7b
    have kc2 := kc.trans hK7c
    have xc := ((xx5.kept hK6).kept hKc).kept hK7c
    have rc := ((r5.kept hK6).kept hKc).kept hK7c
    have bc := ((b5.kept hK6).kept hKc).kept hK7c
    have rbd := rbc.kept hK7c
    have o3c := ((o3'.kept hK6.grown (fun _ h => by cases h)).kept hKc.grown (fun _ h => by cases h)).kept hK7c.grown (fun _ h => by cases h)
    have o5c := ((o5.kept hK6.grown (fun _ h => by cases h)).kept hKc.grown (fun _ h => by cases h)).kept hK7c.grown (fun _ h => by cases h)
    have hs3 := hK3.size
    have hs4 := hK4.size
    have cx := xc.cell 0
    clear o3' o5 i3 i5 hK5 hK6 hKc x4 r4 b4 b3 k6 k5 k4 ka k45 r5 rb5 b5 xx5 hK7 hK7b hK7c hR7 rbc kc
    go_wp2_with fail
    refine (markSlab_ok _ g4 zs0.length zs0 rc hl).mono ?_
    rintro e w8 ⟨rfl, hR8, hG8⟩
    have k8 := kc2.grownRow hG8 (fun k e => by cases e; omega)
    have o3d := o3c.kept hG8 (fun k e j hj => by cases e; have := lt3 j hj; omega)
    have o5d := o5c.kept hG8 (fun k e j hj => by cases e; have := lt5 j hj; omega)
    have bd := bc.grown hG8 (by intro e; cases e; omega)
    have rbe := rbd.grown hG8 (by intro e; injection e with e; omega)
    clear cx o3c o5c bc rc xc hG8 kc2 rbd hR8
    go_wp2_with fail
    refine (markFrom_ok _ _ _ (zs0.length + 1) zs1 rbe hrl (by omega)).mono ?_
    rintro e w8b ⟨rfl, hG8b⟩
    have k8b := k8.grownRow hG8b (fun k e => by cases e; omega)
    have o3d2 := o3d.kept hG8b (fun k e j hj => by cases e; have := lt3 j hj; omega)
    have o5d2 := o5d.kept hG8b (fun k e j hj => by cases e; have := lt5 j hj; omega)
    have bd2 := bd.grown hG8b (by intro e; injection e with e; omega)
    have i3d : Ints w8b la3 rs := by
      obtain ⟨a', c', e', i'⟩ := o3d2.ints
      cases e'; exact i'
    have i5d : Ints w8b la5 rs := by
      obtain ⟨a', c', e', i'⟩ := o5d2.ints
      cases e'; exact i'
    clear o3d o5d bd hG8b k8 rbe
    go_wp2_with fail
    refine (eqIntS_ok _ _ _ _ _ rs i5d i3d (by omega)).mono ?_
    rintro e w9 ⟨rfl, hK9⟩
    have k9 := k8b.trans hK9
    have o3e := o3d2.kept hK9.grown (fun _ h => by cases h)
    have o5e := o5d2.kept hK9.grown (fun _ h => by cases h)
    have be := bd2.kept hK9
    clear i3d i5d o3d2 o5d2 bd2 hK9 k8b
    go_wp2_with fail
    refine (markIntS_ok _ _ _ rs o5e (by omega)).mono ?_
    rintro e w10 ⟨rfl, ⟨la, lc, ev, i10⟩, hG10⟩
    cases ev
    have k10 := k9.grownRow hG10 (fun k e => by have := lt5 k e; omega)
    have o3f := o3e.kept hG10 (fun k e j hj => by have := lt3 j hj; have := lt5 k e; omega)
    have bf := be.grown hG10 (by intro e; have := lt5 _ e.symm; omega)
    clear o3e o5e be hG10 k9
    go_wp2_with fail
    refine (heldIntS_ok _ _ _ _ i10 (by omega)).mono ?_
    rintro e w11 ⟨rfl, rfl⟩
    have c10 := bf.cell 0
    go_wp2_with fail
    refine (toSlab_ok _ ao0 cap0 zs0 (hI0.kept k10) hl).mono ?_
    rintro e w12 ⟨g12, rfl, hg12, hR12, hK12⟩
    go_wp2_with fail
    refine (toIntS_ok _ ao1 cap1 zs1 (hI1.kept (k10.trans hK12)) hrl).mono ?_
    rintro e w12b ⟨rfl, hR12b, hK12b⟩
    go_wp2_with fail
    refine (hImp _ _ _ _ _ (hR12.kept hK12b).ints hR12b.ints).mono ?_
    rintro e w13 ⟨v13, rfl, o13, hK13⟩
    obtain ⟨la13, lc13, rfl, i13⟩ := o13.ints
    have hK13' := hK12b.trans hK13
    have o3g := (o3f.kept hK12.grown (fun _ h => by cases h)).kept hK13'.grown (fun _ h => by cases h)
    have i3g : Ints w13 la3 rs := by
      obtain ⟨a', c', e', i'⟩ := o3g.ints
      cases e'; exact i'
    clear c10
    go_wp2_with fail
    refine (eqIntS_ok _ _ _ _ _ rs i13 i3g (by omega)).mono ?_
    rintro e w14 ⟨rfl, hK14⟩
    go_wp2_with fail
    refine (heldIntS_ok _ _ _ _ (((i10.kept hK12).kept hK13').kept hK14) (by omega)).mono ?_
    rintro e w15 ⟨rfl, rfl⟩
    go_wp2
    go_ret
    exact ⟨rfl, ((k10.trans hK12).trans hK13').trans hK14⟩

set_option maxRecDepth 100000 in
theorem lifted (os : Os) (started : os.Started) (H : Type) (enc : TypeId × Value → H) :
    ReturnsInHanded {} Try.checked os 3 .any (Rows.fnExactReachSpec.pre6 enc Try.prog Try.f3 Rows.fnExactReachRow.domain false) (Rows.fnExactReachSpec.post enc Try.prog Try.f3 false true false false) := by
  refine returnsInHanded_of_change (C := Try.checked) own started (by kernel_rfl) Try.func3
    (ChangeSpec.witness6 (enc := enc) (C := Try.checked) false ⟨#[], #[.agg #[.slice none 0 0], .slice none 0 0], []⟩ 8 (by kernel_rfl) (by kernel_rfl) (by kernel_rfl) (by kernel_rfl)) ?_
  intro W base args ds gs before hval0 hW hcnd _
  have hval : ∀ (j : Nat) t v, Try.f3.params[j]? = some t → args[j]? = some v → Value.okWide Try.prog W .any base t v := hval0
  have hW' := hW
  obtain ⟨p, q, hA0, hV, rfl, hfz, hnd⟩ := hW
  have hA : DataW.TrodAll enc Try.prog W 0 (fun _ => true) true Try.f3.params.toList args.toList ds p := hA0
  rw [Try.params3] at hA hval
  obtain ⟨v0, vs0, d0, ds0, p0, q0, hargs0, rfl, rfl, h0, r0⟩ := trodAll_cons hA
  obtain ⟨v1, vs1, d1, ds1, p1, q1, hargs1, rfl, rfl, h1, r1⟩ := trodAll_cons r0
  obtain ⟨rfl, rfl, rfl⟩ := trodAll_nil r1
  obtain rfl : args = #[v0, v1] := by cases args; simp_all
  obtain ⟨rfl, rfl⟩ := trodVars_none hV
  clear hA0 hval0
  simp only [List.append_nil] at hW'
  have hlt0 : ∀ x ∈ p0, x.block < W.heap.size := fun x hx => by simpa using hW'.lt x (by simp [hx])
  have hlt1 : ∀ x ∈ p1, x.block < W.heap.size := fun x hx => by simpa using hW'.lt x (by simp [hx])
  obtain ⟨ao0, cap0, zs0, rfl, hc0, hm0, hI0⟩ := open_slab (hval 0 24 v0 rfl rfl) h0
  obtain ⟨ao1, cap1, zs1, rfl, hc1, hm1, hI1⟩ := open_list (hval 1 22 v1 rfl rfl) h1
  refine (walk W ao0 cap0 zs0 hc0 hm0 hI0 ao1 cap1 zs1 hc1 hm1 hI1).mono fun e W' ⟨he, hk⟩ => ?_
  subst he
  refine ⟨_, rfl, _, _, _, [], p0 ++ (p1 ++ []), [], hW', ?_, ?_, rfl, hk.frame _, fun h => by cases h⟩
  · exact trodAll_cons_mk (shut_bool Try.underlying4 _) trodAll_mk0
  · exact (trodAll_cons_mk (Below.trod laid (by kernel_rfl) (of_decide_eq_true (by kernel_rfl)) h0 hk hlt0) (trodAll_cons_mk (Below.trod laid (by kernel_rfl) (of_decide_eq_true (by kernel_rfl)) h1 hk hlt1) trodAll_mk0))

theorem over : Rows.fnExactReachRow.holds Try.pinned (OpenSpec.ofChange Rows.fnExactReachSpec) :=
  OpenClaim.holds_of_wide 3 Try.f3 rfl rfl rfl rfl rfl rfl rfl ⟨rfl, rfl, rfl, rfl, rfl⟩ rfl rfl rfl rfl rfl (by kernel_rfl) Try.func3 (by kernel_rfl)
    (of_decide_eq_true (by kernel_rfl)) (by unfold Func.isWrapper; first | (rw [if_pos (by decide +kernel)]; kernel_rfl) | (rw [if_neg (by decide +kernel)]; exact ⟨rfl, rfl⟩))
    (fun os started H enc _ => lifted os started H enc)

theorem proved : Rows.FnExactReachSaid :=
  over
#print axioms proved
end Go.Proofs.Ytblonbdagidfjaa.fnExactReach
