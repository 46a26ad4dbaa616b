/-
  The law FnExactWaste is proved: at every slab and list of values impl.Waste answers as its model, and it writes into neither.
-/
import Derived.Test.YtblonbdagidfjaaRows
import Derived.Test.YtblonbdagidfjaaFrame
import Derived.Test.YtblonbdagidfjaaHelpL
import Derived.Test.YtblonbdagidfjaaHelpN
import Derived.Test.YtblonbdagidfjaaFrame2
import Derived.Test.YtblonbdagidfjaaWstA
import Derived.Test.YtblonbdagidfjaaWstB
import Derived.Deep.RegionWith
import Derived.Deep.CutRange
namespace Go.Proofs.Ytblonbdagidfjaa.fnExactWaste
open Go.ChangeShapes Go.WideShapes Go.ChangeAt Go.RowKit
set_option linter.unusedVariables false

theorem own : ownKnob Try.prog.godebug = none := by kernel_rfl

set_option maxHeartbeats 4000000 in
set_option maxRecDepth 100000 in
theorem walk (w : World) (ao0 : Option Addr) (cap0 : Nat) (zs0 : List Int) (hc0 : zs0.length ≤ cap0) (hm0 : cap0 ≤ maxLen) (hI0 : Ints w ao0 zs0) (ao1 : Option Addr) (cap1 : Nat) (zs1 : List Int) (hc1 : zs1.length ≤ cap1) (hm1 : cap1 ≤ maxLen) (hI1 : Ints w ao1 zs1) :
    Calls Try.prog 5 #[.agg #[.slice ao0 zs0.length cap0], .slice ao1 zs1.length cap1] w fun e w' => e = .returned (.bool true) ∧ Kept w w' := by
  by_cases hr : 1048576 < zs1.length
  · go_enter Try.func5, Try.ntmps5
    go_wp2
    go_ret
    exact ⟨rfl, Kept.alloc (Below.refl _ _) _⟩
  by_cases hb : 1048576 < zs0.length
  · go_enter Try.func5, Try.ntmps5
    go_wp2_with (go_at_call 6; refine (szSlab_big _ ao0 cap0 zs0.length hb (by unfold maxLen at hm0; omega)).mono ?_; rintro e w1 ⟨rfl, hK1⟩)
    go_ret
    exact ⟨rfl, (Kept.alloc (Below.refl _ _) _).trans hK1⟩
  · have hl : zs0.length ≤ 1048576 := by omega
    have hrl : zs1.length ≤ 1048576 := by omega
    have hbd : wasteR zs0 zs1 ≤ 2000000 := by
      unfold wasteR
      split
      · rename_i h
        have := wstOf_bd (zs := zs0) (slabOk_len (rootsR_ok h)) (ordL zs0 zs1) (blocks zs0).length
        rwa [List.take_length] at this
      · omega
    have hSpec := fun (w : World) (ao ro : Option Addr) (cap rc : Nat) (hI : Ints w ao zs0) (hR : Ints w ro zs1) => spec_Waste_ok w ao ro cap rc zs0 zs1 hI hl hR hrl
    have hImp := fun (w : World) (ao ro : Option Addr) (cap rc : Nat) (hI : Ints w ao zs0) (hR : Ints w ro zs1) => impl_Waste_ok w ao ro cap rc zs0 zs1 hI hl hR hrl
    obtain ⟨rs, hrs⟩ : ∃ rs, wasteR zs0 zs1 = rs := ⟨_, rfl⟩
    rw [hrs] at hbd hSpec hImp
    clear hrs
    have k0 : Kept w (w.alloc (.cells #[.slice ao0 zs0.length cap0] 24)) := Kept.alloc (Below.refl _ _) _
    have b0 := Cells.new w 24 #[.slice ao0 zs0.length cap0]
    clear hb hr
    go_enter Try.func5, Try.ntmps5
    go_wp2_with fail
    refine (szSlab_ok _ ao0 cap0 zs0.length hl).mono ?_
    rintro e w1 ⟨rfl, hK1⟩
    have k1 := k0.trans hK1
    have c1 := (b0.kept hK1).cell 0
    go_wp2_with fail
    refine (toSlab_ok _ ao0 cap0 zs0 (hI0.kept k1) hl).mono ?_
    rintro e w2 ⟨g2, rfl, hg2, hR2, hK2⟩
    go_wp2_with fail
    refine (toIntS_ok _ ao1 cap1 zs1 (hI1.kept (k1.trans hK2)) hrl).mono ?_
    rintro e w2b ⟨rfl, hR2b, hK2b⟩
    go_wp2_with fail
    refine (hSpec _ _ _ _ _ (hR2.kept hK2b).ints hR2b.ints).mono ?_
    rintro e w3 ⟨rfl, hK3⟩
    have k3 := ((k1.trans hK2).trans hK2b).trans hK3
    have b3 := (((b0.kept hK1).kept hK2).kept hK2b).kept hK3
    have c3 := b3.cell 0
    clear c1 hR2 hR2b hg2
    go_wp2_with fail
    refine (toSlab_ok _ ao0 cap0 zs0 (hI0.kept k3) hl).mono ?_
    rintro e w4 ⟨g4, rfl, hg4, hR4, hK4⟩
    have ka : Kept w4 (w4.alloc (.cells #[.slice (some ⟨g4, 0, none⟩) zs0.length zs0.length] 27)) := Kept.alloc (Below.refl _ w4) _
    have k4 := (k3.trans hK4).trans ka
    have b4 := (b3.kept hK4).kept ka
    have x4 := Cells.new w4 27 #[.slice (some ⟨g4, 0, none⟩) zs0.length zs0.length]
    have r4 := hR4.kept ka
    have l4 := hR4.lt
    clear c3
    go_wp2_with fail
    refine (toIntS_ok _ ao1 cap1 zs1 (hI1.kept k4) hrl).mono ?_
    rintro e w4b ⟨rfl, hR4b, hK4b⟩
    simp only [World.size_alloc] at hR4b
    have x4b := (x4.kept hK4b).cell 0
    have l4b := hR4b.lt
    go_wp2_with fail
    refine (hImp _ _ _ _ _ (r4.kept hK4b).ints hR4b.ints).mono ?_
    rintro e w5 ⟨rfl, hK5⟩
    have k45 := hK4b.trans hK5
    have k5 := k4.trans k45
    have r5 := r4.kept k45
    have rb5 := hR4b.kept hK5
    have b5 := b4.kept k45
    have xx5 := x4.kept k45
    clear x4b hR4 hR4b
    have c6 := b5.cell 0
    have x6 := xx5.cell 0
    go_wp2_with fail
    have i6 : Ints w5.drew ao0 zs0 := hI0.kept (k5.drew)
    have r6 : Row w5.drew g4 zs0 := r5.kept (Below.refl _ w5).drew
    have x6' : Cells w5.drew w4.heap.size 27 #[.slice (some ⟨g4, 0, none⟩) zs0.length zs0.length] := xx5.kept (Below.refl _ w5).drew
    go_cut [37] from 33 to 36 (fun s35 wx => s35 = .bool false ∧ Kept w5 wx)
    case first =>
      go_region_with (first | (go_at_call 8; refine (toSlab_ok _ ao0 cap0 zs0 i6 hl).mono ?_; rintro e w7 ⟨g7, rfl, hg7, hR7, hK7⟩; have x7 := (x6'.kept hK7).cell 0; have r7 := r6.kept hK7) | (go_at_call 12; refine (eqSlab_ok _ _ _ _ _ zs0 r7.ints hR7.ints (by omega)).mono ?_; rintro e w8 ⟨rfl, hK8⟩))
      all_goals (go_wp2_with fail; go_meet; exact ⟨rfl, (Kept.trans (Below.drew (Below.refl _ w5)) hK7).trans hK8⟩)
    case rest =>
    obtain ⟨rfl, hKc⟩ := hcut
    clear i6 r6 x6' c6 x6
    have kc := k5.trans hKc
    have rbc := rb5.kept hKc
    go_wp2_with fail
    refine (toIntS_ok _ ao1 cap1 zs1 (hI1.kept kc) hrl).mono ?_
    rintro e w7 ⟨rfl, hR7, hK7⟩
    go_wp2_with fail
    refine (eqIntS_ok _ _ _ _ _ zs1 (rbc.kept hK7).ints hR7.ints (by omega)).mono ?_
    rintro e w7b ⟨rfl, hK7b⟩
    go_wp2
    go_ret
    exact ⟨rfl, (kc.trans hK7).trans hK7b⟩

set_option maxRecDepth 100000 in
theorem lifted (os : Os) (started : os.Started) (H : Type) (enc : TypeId × Value → H) :
    ReturnsInHanded {} Try.checked os 5 .any (Rows.fnExactWasteSpec.pre6 enc Try.prog Try.f5 Rows.fnExactWasteRow.domain false) (Rows.fnExactWasteSpec.post enc Try.prog Try.f5 false true false false) := by
  refine returnsInHanded_of_change (C := Try.checked) own started (by kernel_rfl) Try.func5
    (ChangeSpec.witness6 (enc := enc) (C := Try.checked) false ⟨#[], #[.agg #[.slice none 0 0], .slice none 0 0], []⟩ 8 (by kernel_rfl) (by kernel_rfl) (by kernel_rfl) (by kernel_rfl)) ?_
  intro W base args ds gs before hval0 hW hcnd _
  have hval : ∀ (j : Nat) t v, Try.f5.params[j]? = some t → args[j]? = some v → Value.okWide Try.prog W .any base t v := hval0
  have hW' := hW
  obtain ⟨p, q, hA0, hV, rfl, hfz, hnd⟩ := hW
  have hA : DataW.TrodAll enc Try.prog W 0 (fun _ => true) true Try.f5.params.toList args.toList ds p := hA0
  rw [Try.params5] at hA hval
  obtain ⟨v0, vs0, d0, ds0, p0, q0, hargs0, rfl, rfl, h0, r0⟩ := trodAll_cons hA
  obtain ⟨v1, vs1, d1, ds1, p1, q1, hargs1, rfl, rfl, h1, r1⟩ := trodAll_cons r0
  obtain ⟨rfl, rfl, rfl⟩ := trodAll_nil r1
  obtain rfl : args = #[v0, v1] := by cases args; simp_all
  obtain ⟨rfl, rfl⟩ := trodVars_none hV
  clear hA0 hval0
  simp only [List.append_nil] at hW'
  have hlt0 : ∀ x ∈ p0, x.block < W.heap.size := fun x hx => by simpa using hW'.lt x (by simp [hx])
  have hlt1 : ∀ x ∈ p1, x.block < W.heap.size := fun x hx => by simpa using hW'.lt x (by simp [hx])
  obtain ⟨ao0, cap0, zs0, rfl, hc0, hm0, hI0⟩ := open_slab (hval 0 24 v0 rfl rfl) h0
  obtain ⟨ao1, cap1, zs1, rfl, hc1, hm1, hI1⟩ := open_list (hval 1 22 v1 rfl rfl) h1
  refine (walk W ao0 cap0 zs0 hc0 hm0 hI0 ao1 cap1 zs1 hc1 hm1 hI1).mono fun e W' ⟨he, hk⟩ => ?_
  subst he
  refine ⟨_, rfl, _, _, _, [], p0 ++ (p1 ++ []), [], hW', ?_, ?_, rfl, hk.frame _, fun h => by cases h⟩
  · exact trodAll_cons_mk (shut_bool Try.underlying4 _) trodAll_mk0
  · exact (trodAll_cons_mk (Below.trod laid (by kernel_rfl) (of_decide_eq_true (by kernel_rfl)) h0 hk hlt0) (trodAll_cons_mk (Below.trod laid (by kernel_rfl) (of_decide_eq_true (by kernel_rfl)) h1 hk hlt1) trodAll_mk0))

theorem over : Rows.fnExactWasteRow.holds Try.pinned (OpenSpec.ofChange Rows.fnExactWasteSpec) :=
  OpenClaim.holds_of_wide 5 Try.f5 rfl rfl rfl rfl rfl rfl rfl ⟨rfl, rfl, rfl, rfl, rfl⟩ rfl rfl rfl rfl rfl (by kernel_rfl) Try.func5 (by kernel_rfl)
    (of_decide_eq_true (by kernel_rfl)) (by unfold Func.isWrapper; first | (rw [if_pos (by decide +kernel)]; kernel_rfl) | (rw [if_neg (by decide +kernel)]; exact ⟨rfl, rfl⟩))
    (fun os started H enc _ => lifted os started H enc)

theorem proved : Rows.FnExactWasteSaid :=
  over
#print axioms proved
end Go.Proofs.Ytblonbdagidfjaa.fnExactWaste
