/-
  The law FnExactPicture is proved (a tied card: three tables of the library lie as its text lays them): at every slab and list of values impl.Picture answers as its model, and it writes into neither.
-/
import Derived.Test.YtgnpllpinfhccaaGreatDoorRows
import Derived.Test.YtgnpllpinfhccaaGreatDoorCards
import Derived.Test.YtgnpllpinfhccaaGreatDoorTie
import Derived.ChangeVars
import Derived.Stop.Joined
import Derived.SevenTiedAt
import Derived.Deep.RegionWith
import Derived.Deep.CutRange
import Derived.Test.YtgnpllpinfhccaaGreatDoorFrame
import Derived.Test.YtgnpllpinfhccaaGreatDoorDoor
import Derived.Test.YtgnpllpinfhccaaGreatDoorHelpL
import Derived.Test.YtgnpllpinfhccaaGreatDoorFrame2
import Derived.Test.YtgnpllpinfhccaaGreatDoorGrpEP
import Derived.Test.YtgnpllpinfhccaaGreatDoorRchF
namespace Go.Proofs.YtgnpllpinfhccaaGreatDoor.fnExactPicture
open Go.ChangeShapes Go.WideShapes Go.ChangeAt Go.RowKit
set_option linter.unusedVariables false

theorem own : ownKnob Tryz.prog.godebug = none := by kernel_rfl

set_option maxHeartbeats 4000000 in
set_option maxRecDepth 100000 in
theorem walk (w : World) (hT : Tab w) (ao0 : Option Addr) (cap0 : Nat) (zs0 : List Int) (hc0 : zs0.length ≤ cap0) (hm0 : cap0 ≤ maxLen) (hI0 : Ints w ao0 zs0) (ao1 : Option Addr) (cap1 : Nat) (zs1 : List Int) (hc1 : zs1.length ≤ cap1) (hm1 : cap1 ≤ maxLen) (hI1 : Ints w ao1 zs1) :
    Calls Tryz.prog 4 #[.agg #[.slice ao0 zs0.length cap0], .slice ao1 zs1.length cap1] w fun e w' => e = .returned (.bool true) ∧ Kept w w' := by
  by_cases hr : 1048576 < zs1.length
  · go_enter Tryz.func4, Tryz.ntmps4
    go_wp2
    go_ret
    exact ⟨rfl, Kept.alloc (Below.refl _ _) _⟩
  by_cases hb : 1048576 < zs0.length
  · go_enter Tryz.func4, Tryz.ntmps4
    go_wp2_with (go_at_call 18; refine (szSlab_big _ ao0 cap0 zs0.length hb (by unfold maxLen at hm0; omega)).mono ?_; rintro e w1 ⟨rfl, hK1⟩)
    go_ret
    exact ⟨rfl, (Kept.alloc (Below.refl _ _) _).trans hK1⟩
  · have hl : zs0.length ≤ 1048576 := by omega
    have hrl : zs1.length ≤ 1048576 := by omega
    have hSpec := fun (u : World) (ao ro : Option Addr) (cap rc : Nat) (hI : Ints u ao zs0) (hR : Ints u ro zs1) => spec_Picture_ok u ao ro cap rc zs0 zs1 hI hl hR hrl
    have hImp := fun (u : World) (ao ro : Option Addr) (cap rc : Nat) (hI : Ints u ao zs0) (hR : Ints u ro zs1) (hu : Tab u) => impl_Picture_ok u ao ro cap rc zs0 zs1 hI hl hR hrl hu
    obtain ⟨P, hP⟩ : ∃ P, strOfNums (picL zs0 zs1) = P := ⟨_, rfl⟩
    rw [hP] at hSpec hImp
    clear hP
    have k0 : Kept w (w.alloc (.cells #[.slice ao0 zs0.length cap0] 36)) := Kept.alloc (Below.refl _ _) _
    have b0 := Cells.new w 36 #[.slice ao0 zs0.length cap0]
    clear hb hr
    go_enter Tryz.func4, Tryz.ntmps4
    go_wp2_with fail
    refine (szSlab_ok _ ao0 cap0 zs0.length hl).mono ?_
    rintro e w1 ⟨rfl, hK1⟩
    have k1 := k0.trans hK1
    have c1 := (b0.kept hK1).cell 0
    go_wp2_with fail
    refine (toSlab_ok _ ao0 cap0 zs0 (hI0.kept k1) hl).mono ?_
    rintro e w2 ⟨g2, rfl, hg2, hR2, hK2⟩
    go_wp2_with fail
    refine (toIntS_ok _ ao1 cap1 zs1 (hI1.kept (k1.trans hK2)) hrl).mono ?_
    rintro e w2b ⟨rfl, hR2b, hK2b⟩
    go_wp2_with fail
    refine (hSpec _ _ _ _ _ (hR2.kept hK2b).ints hR2b.ints).mono ?_
    rintro e w3 ⟨rfl, hK3⟩
    have k3 := ((k1.trans hK2).trans hK2b).trans hK3
    have b3 := (((b0.kept hK1).kept hK2).kept hK2b).kept hK3
    have c3 := b3.cell 0
    clear c1 hR2 hR2b hg2
    go_wp2_with fail
    refine (toSlab_ok _ ao0 cap0 zs0 (hI0.kept k3) hl).mono ?_
    rintro e w4 ⟨g4, rfl, hg4, hR4, hK4⟩
    have ka : Kept w4 (w4.alloc (.cells #[.slice (some ⟨g4, 0, none⟩) zs0.length zs0.length] 26)) := Kept.alloc (Below.refl _ w4) _
    have k4 := (k3.trans hK4).trans ka
    have b4 := (b3.kept hK4).kept ka
    have x4 := Cells.new w4 26 #[.slice (some ⟨g4, 0, none⟩) zs0.length zs0.length]
    have r4 := hR4.kept ka
    clear c3
    go_wp2_with fail
    refine (toIntS_ok _ ao1 cap1 zs1 (hI1.kept k4) hrl).mono ?_
    rintro e w4b ⟨rfl, hR4b, hK4b⟩
    simp only [World.size_alloc] at hR4b
    have x4b := (x4.kept hK4b).cell 0
    go_wp2_with fail
    refine (hImp _ _ _ _ _ (r4.kept hK4b).ints hR4b.ints (hT.kept (k4.trans hK4b))).mono ?_
    rintro e w5 ⟨rfl, hK5⟩
    have k45 := hK4b.trans hK5
    have k5 := k4.trans k45
    have r5 := r4.kept k45
    have rb5 := hR4b.kept hK5
    have x5 := (x4.kept k45).cell 0
    have c5 := (b4.kept k45).cell 0
    clear x4b hK4b hR4 hR4b
    go_wp2_with fail
    have i5 : Ints w5.drew ao0 zs0 := hI0.kept (k5.drew)
    have r5' : Row w5.drew g4 zs0 := r5.kept (Below.refl _ w5).drew
    have x5' : Cells w5.drew w4.heap.size 26 #[.slice (some ⟨g4, 0, none⟩) zs0.length zs0.length] := (x4.kept k45).kept (Below.refl _ w5).drew
    go_cut [37] from 33 to 36 (fun s37 wx => s37 = .bool false ∧ Kept w5 wx)
    case first =>
      go_region_with (first | (go_at_call 19; refine (toSlab_ok _ ao0 cap0 zs0 i5 hl).mono ?_; rintro e w6 ⟨g6, rfl, hg6, hR6, hK6⟩; have x6 := (x5'.kept hK6).cell 0; have r6 := r5'.kept hK6) | (go_at_call 21; refine (eqSlab_ok _ _ _ _ _ zs0 r6.ints hR6.ints (by omega)).mono ?_; rintro e w7 ⟨rfl, hK7⟩))
      all_goals (go_wp2_with fail; go_meet; exact ⟨rfl, (Kept.trans (Below.drew (Below.refl _ w5)) hK6).trans hK7⟩)
    case rest =>
    obtain ⟨rfl, hKc⟩ := hcut
    have kc := k5.trans hKc
    have rbc := rb5.kept hKc
    clear i5 r5' x5' x5 c5 r5 rb5
    go_wp2_with fail
    refine (toIntS_ok _ ao1 cap1 zs1 (hI1.kept kc) hrl).mono ?_
    rintro e w8 ⟨rfl, hR8, hK8⟩
    go_wp2_with fail
    refine (eqIntS_ok _ _ _ _ _ zs1 (rbc.kept hK8).ints hR8.ints (by omega)).mono ?_
    rintro e w9 ⟨rfl, hK9⟩
    go_wp2
    go_ret
    exact ⟨rfl, (kc.trans hK8).trans hK9⟩

set_option maxRecDepth 100000 in
theorem lifted (os : Os) (started : os.Started) (H : Type) (enc : TypeId × Value → H) :
    ReturnsInHanded {} Tryz.checked os 4 .any (fun w args => (Rows.fnExactPictureSpec.pre enc Tryz.prog Tryz.f4 [] false w args ∧ laidMetH Tryz.prog Rows.fnExactPictureRow.laid w) ∧ sizedMet enc Tryz.prog Tryz.f4 (OpenSpec.ofChange Rows.fnExactPictureSpec) false w args)
      (Rows.fnExactPictureSpec.post enc Tryz.prog Tryz.f4 false true false false) := by
  refine returnsInHanded_of_change_and (C := Tryz.checked) (X := fun w _ => laidMetH Tryz.prog Rows.fnExactPictureRow.laid w) (fun _ _ _ hh h => h.of_heap hh) own started (by kernel_rfl) Tryz.func4
    (ChangeSpec.witness_at (enc := enc) (C := Tryz.checked) (os := os) (X := fun w _ => laidMetH Tryz.prog Rows.fnExactPictureRow.laid w) false (laidWorld os) #[.agg #[.slice none 0 0], .slice none 0 0] 8 rfl (by kernel_rfl) (by kernel_rfl) (by kernel_rfl) (by kernel_rfl) (by kernel_rfl) (laidWorld_met os _)) ?_
  intro W base args ds gs before hval0 hW _ _ hL _
  have hval : ∀ (j : Nat) t v, Tryz.f4.params[j]? = some t → args[j]? = some v → Value.okWide Tryz.prog W .any base t v := hval0
  have hW' := hW
  obtain ⟨p, q, hA0, hV, rfl, hfz, hnd⟩ := hW
  have hA : DataW.TrodAll enc Tryz.prog W 0 (fun _ => true) true Tryz.f4.params.toList args.toList ds p := hA0
  rw [Tryz.params4] at hA hval
  obtain ⟨v0, vs0, d0, ds0, p0, q0, hargs0, rfl, rfl, h0, r0⟩ := trodAll_cons hA
  obtain ⟨v1, vs1, d1, ds1, p1, q1, hargs1, rfl, rfl, h1, r1⟩ := trodAll_cons r0
  obtain ⟨rfl, rfl, rfl⟩ := trodAll_nil r1
  obtain rfl : args = #[v0, v1] := by cases args; simp_all
  obtain ⟨rfl, rfl⟩ := trodVars_none hV
  clear hA0 hval0
  simp only [List.append_nil] at hW'
  have hlt0 : ∀ x ∈ p0, x.block < W.heap.size := fun x hx => by simpa using hW'.lt x (by simp [hx])
  have hlt1 : ∀ x ∈ p1, x.block < W.heap.size := fun x hx => by simpa using hW'.lt x (by simp [hx])
  obtain ⟨ao0, cap0, zs0, rfl, hc0, hm0, hI0⟩ := open_slab (hval 0 36 v0 rfl rfl) h0
  obtain ⟨ao1, cap1, zs1, rfl, hc1, hm1, hI1⟩ := open_list (hval 1 24 v1 rfl rfl) h1
  refine (walk W (tab_of_laid hL) ao0 cap0 zs0 hc0 hm0 hI0 ao1 cap1 zs1 hc1 hm1 hI1).mono fun e W' ⟨he, hk⟩ => ?_
  subst he
  refine ⟨_, rfl, _, _, _, [], p0 ++ (p1 ++ []), [], hW', ?_, ?_, rfl, hk.frame _, fun h => by cases h⟩
  · exact trodAll_cons_mk (shut_bool Tryz.underlying4 _) trodAll_mk0
  · exact (trodAll_cons_mk (Below.trod laid (by kernel_rfl) (of_decide_eq_true (by kernel_rfl)) h0 hk hlt0) (trodAll_cons_mk (Below.trod laid (by kernel_rfl) (of_decide_eq_true (by kernel_rfl)) h1 hk hlt1) trodAll_mk0))

theorem over : Rows.fnExactPictureRow.holds Tryz.pinned (OpenSpec.ofChange Rows.fnExactPictureSpec) :=
  OpenClaim.holds_of_wide 4 Tryz.f4 rfl rfl rfl rfl rfl rfl rfl ⟨rfl, rfl, rfl, rfl, rfl⟩ rfl rfl rfl rfl rfl (by kernel_rfl) Tryz.func4 (by kernel_rfl)
    (of_decide_eq_true (by kernel_rfl)) (by unfold Func.isWrapper; first | (rw [if_pos (by decide +kernel)]; kernel_rfl) | (rw [if_neg (by decide +kernel)]; exact ⟨rfl, rfl⟩))
    (fun os started H enc _ => lifted os started H enc)

theorem proved : Rows.FnExactPictureCardSaid :=
  Claim7.holds_tied_plain_at .later [] [.data, .data, .data] true (true, Rows.fnExactPictureCard.stood.harness.2) true
    over (fun _ h => by cases h) (by kernel_rfl) (fun _ h => by cases h) fnExactPicture_row_tie rfl ⟨rfl, rfl⟩ (by kernel_rfl) rfl
    (fun f fn hf hfn => by
      obtain rfl : f = 4 := Option.some.inj ((show Tryz.prog.funcNamed Rows.fnExactPictureRow.func = some 4 by kernel_rfl).symm.trans hf) |>.symm
      obtain rfl : fn = Tryz.f4 := (Option.some.inj (Tryz.func4.symm.trans hfn)).symm
      exact ⟨by kernel_rfl, fun j t ht => by
        rw [Tryz.params4] at ht
        have hm : t ∈ [36, 24] := by
          have := List.mem_of_getElem? (l := [36, 24]) (i := j) (a := t) (by simpa using ht)
          exact this
        have hall : ∀ t ∈ [36, 24], Tryz.prog.wantsStandIn t = false := by
          intro t ht
          simp only [List.mem_cons, List.not_mem_nil, or_false] at ht
          rcases ht with rfl | rfl <;> kernel_rfl
        exact hall t hm⟩)
    (by kernel_rfl)
#print axioms proved
end Go.Proofs.YtgnpllpinfhccaaGreatDoor.fnExactPicture
