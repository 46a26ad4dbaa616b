/-
  The law FnExactSameSight is proved (a tied card: three tables of the library lie as its text lays them): at every two slabs and lists of values impl.SameSight answers as its model, and it writes into none.
-/
import Derived.Test.YtgnpllpinfhccaaGreatDoorRows
import Derived.Test.YtgnpllpinfhccaaGreatDoorCards
import Derived.Test.YtgnpllpinfhccaaGreatDoorTie
import Derived.ChangeVars
import Derived.Stop.Joined
import Derived.SevenTiedAt
import Derived.Deep.RegionWith
import Derived.Deep.RegionHeld3
import Derived.Deep.CutRange
import Derived.Test.YtgnpllpinfhccaaGreatDoorFrame
import Derived.Test.YtgnpllpinfhccaaGreatDoorDoor
import Derived.Test.YtgnpllpinfhccaaGreatDoorHelpS
import Derived.Test.YtgnpllpinfhccaaGreatDoorFrame2
import Derived.Test.YtgnpllpinfhccaaGreatDoorGrpEQ
import Derived.Test.YtgnpllpinfhccaaGreatDoorRchF
namespace Go.Proofs.YtgnpllpinfhccaaGreatDoor.fnExactSameSight
open Go.ChangeShapes Go.WideShapes Go.ChangeAt Go.RowKit
set_option linter.unusedVariables false

theorem own : ownKnob Tryz.prog.godebug = none := by kernel_rfl

set_option maxHeartbeats 16000000 in
set_option maxRecDepth 100000 in
theorem walk (w : World) (hT : Tab w) (ao0 : Option Addr) (cap0 : Nat) (zs0 : List Int) (hc0 : zs0.length ≤ cap0) (hm0 : cap0 ≤ maxLen) (hI0 : Ints w ao0 zs0) (ao1 : Option Addr) (cap1 : Nat) (zs1 : List Int) (hc1 : zs1.length ≤ cap1) (hm1 : cap1 ≤ maxLen) (hI1 : Ints w ao1 zs1) (ao2 : Option Addr) (cap2 : Nat) (zs2 : List Int) (hc2 : zs2.length ≤ cap2) (hm2 : cap2 ≤ maxLen) (hI2 : Ints w ao2 zs2) (ao3 : Option Addr) (cap3 : Nat) (zs3 : List Int) (hc3 : zs3.length ≤ cap3) (hm3 : cap3 ≤ maxLen) (hI3 : Ints w ao3 zs3) :
    Calls Tryz.prog 5 #[.agg #[.slice ao0 zs0.length cap0], .slice ao1 zs1.length cap1, .agg #[.slice ao2 zs2.length cap2], .slice ao3 zs3.length cap3] w fun e w' => e = .returned (.bool true) ∧ Kept w w' := by
  have k0 : Kept w ((w.alloc (.cells #[.slice ao0 zs0.length cap0] 36)).alloc (.cells #[.slice ao2 zs2.length cap2] 36)) := (Kept.alloc (Below.refl _ _) _).alloc _
  by_cases hr : 1048576 < zs1.length
  · go_enter Tryz.func5, Tryz.ntmps5
    go_wp2
    go_ret
    exact ⟨rfl, k0⟩
  by_cases hs : 1048576 < zs3.length
  · go_enter Tryz.func5, Tryz.ntmps5
    go_wp2
    go_ret
    exact ⟨rfl, k0⟩
  have b0 := (Cells.new w 36 #[.slice ao0 zs0.length cap0]).alloc (.cells #[.slice ao2 zs2.length cap2] 36)
  have b1 := Cells.new (w.alloc (.cells #[.slice ao0 zs0.length cap0] 36)) 36 #[.slice ao2 zs2.length cap2]
  simp only [World.size_alloc] at b1
  have hm0' : zs0.length ≤ 9223372036854775807 := by unfold maxLen at hm0; omega
  have hm2' : zs2.length ≤ 9223372036854775807 := by unfold maxLen at hm2; omega
  by_cases hb : 1048576 < zs0.length
  · go_enter Tryz.func5, Tryz.ntmps5
    go_wp2_with (go_at_call 18; refine (szSlab_big _ ao0 cap0 zs0.length hb hm0').mono ?_; rintro e w1 ⟨rfl, hK1⟩)
    go_ret
    exact ⟨rfl, k0.trans hK1⟩
  have hl : zs0.length ≤ 1048576 := by omega
  have h1 : zs1.length ≤ 1048576 := by omega
  have h3 : zs3.length ≤ 1048576 := by omega
  by_cases hb2 : 1048576 < zs0.length + zs2.length
  · go_enter Tryz.func5, Tryz.ntmps5
    go_wp2_with fail
    refine (szSlab_ok _ ao0 cap0 zs0.length hl).mono ?_
    rintro e w1 ⟨rfl, hK1⟩
    have c1 := (b1.kept hK1).cell 0
    have q1 : ¬ (1048576 : Int) - (zs0.length : Int) < 0 := by omega
    go_wp2_with fail
    refine (szSlab_over _ ao2 cap2 zs2.length _ (by omega) (by omega) (by omega) hm2').mono ?_
    rintro e w2 ⟨rfl, hK2⟩
    go_wp2
    go_ret
    exact ⟨rfl, (k0.trans hK1).trans hK2⟩
  have h2 : zs2.length ≤ 1048576 := by omega
  obtain ⟨R, hR⟩ : ∃ R, sightR zs0 zs1 zs2 zs3 = R := ⟨_, rfl⟩
  have hSpec := fun (u : World) (ao bo ro so : Option Addr) (ca cb cr cs : Nat) (hA : Ints u ao zs0) (hB : Ints u bo zs2) (hRr : Ints u ro zs1) (hS : Ints u so zs3) => spec_SameSight_ok u ao bo ro so ca cb cr cs zs0 zs1 zs2 zs3 hA hB hRr hS hl h2 h1 h3
  have hImp := fun (u : World) (ao bo ro so : Option Addr) (ca cb cr cs : Nat) (hA : Ints u ao zs0) (hB : Ints u bo zs2) (hRr : Ints u ro zs1) (hS : Ints u so zs3) (hu : Tab u) => impl_SameSight_ok u ao bo ro so ca cb cr cs zs0 zs1 zs2 zs3 hA hB hRr hS hl h2 h1 h3 hu
  rw [hR] at hSpec hImp
  have q1 : ¬ (1048576 : Int) - (zs0.length : Int) < 0 := by omega
  have q2 : ¬ (1048576 : Int) - (zs0.length : Int) - (zs2.length : Int) < 0 := by omega
  clear hR hb hb2 hr hs
  go_enter Tryz.func5, Tryz.ntmps5
  go_wp2_with fail
  refine (szSlab_ok _ ao0 cap0 zs0.length hl).mono ?_
  rintro e w0 ⟨rfl, hK0⟩
  have c0 := (b1.kept hK0).cell 0
  go_wp2_with fail
  refine (szSlab_from _ ao2 cap2 zs2.length _ (by omega) (by omega)).mono ?_
  rintro e w1 ⟨rfl, hK1⟩
  have K1 := (k0.trans hK0).trans hK1
  have x1 := (b0.kept hK0).kept hK1
  have y1 := (b1.kept hK0).kept hK1
  clear c0
  go_wp2_with fail
  have HS : Hid (∀ u, Kept w1 u → u.cell? ⟨w.heap.size, 0, none⟩ = some (.slice ao0 zs0.length cap0) ∧ u.cell? ⟨w.heap.size + 1, 0, none⟩ = some (.slice ao2 zs2.length cap2)) := fun u hu => ⟨(x1.kept hu).cell 0, (y1.kept hu).cell 0⟩
  have kd : Kept w1 w1.drew := (Below.refl _ w1).drew
  have T1 : Hid _ := fun (u : World) (hu : Kept w1 u) => toSlab_ok u ao0 cap0 zs0 (hI0.kept (K1.trans hu)) hl
  have T2 : Hid _ := fun (u : World) (hu : Kept w1 u) => toIntS_ok u ao1 cap1 zs1 (hI1.kept (K1.trans hu)) h1
  have T3 : Hid _ := fun (u : World) (hu : Kept w1 u) => toSlab_ok u ao2 cap2 zs2 (hI2.kept (K1.trans hu)) h2
  have T4 : Hid _ := fun (u : World) (hu : Kept w1 u) => toIntS_ok u ao3 cap3 zs3 (hI3.kept (K1.trans hu)) h3
  have tok1 : True := trivial
  have tok2 : True := trivial
  have H0 := HS.out _ kd
  go_region_held3 (fun w' => w'.cell? ⟨w.heap.size, 0, none⟩ = some (.slice ao0 zs0.length cap0) ∧ w'.cell? ⟨w.heap.size + 1, 0, none⟩ = some (.slice ao2 zs2.length cap2))
    (first | exact HS.out _ (by assumption) | go_keep)
    ((first
        | (go_at_call 19; have _t := tok1; refine (T1.out _ kd).mono ?_; rintro e w2 ⟨g2, rfl, hg2, hR2, hK2⟩; have kq2 : Kept w1 w2 := kd.trans hK2; clear tok1)
        | (go_at_call 20; have _t := tok2; refine (T2.out _ kq2).mono ?_; rintro e w3 ⟨rfl, hR3, hK3⟩; have kq3 : Kept w1 w3 := kq2.trans hK3; clear tok2)
        | (go_at_call 19; refine (T3.out _ kq3).mono ?_; rintro e w4 ⟨g4, rfl, hg4, hR4, hK4⟩; have kq4 : Kept w1 w4 := kq3.trans hK4)
        | (go_at_call 20; refine (T4.out _ kq4).mono ?_; rintro e w5 ⟨rfl, hR5, hK5⟩; have kq5 : Kept w1 w5 := kq4.trans hK5; have hSp := hSpec w5 _ _ _ _ zs0.length zs2.length zs1.length zs3.length (((hR2.kept hK3).kept hK4).kept hK5).ints (hR4.kept hK5).ints ((hR3.kept hK4).kept hK5).ints hR5.ints)
        | (go_at_call 9; refine hSp.mono ?_; rintro e w6 ⟨rfl, hK6⟩; have kq6 : Kept w1 w6 := kq5.trans hK6)))
  have K6 := K1.trans kq6
  have x6 := x1.kept kq6
  have y6 := y1.kept kq6
  have c6 := x6.cell 0
  clear T1 T2 T3 T4 HS H0 kd hR2 hR3 hR4 hR5 hg2 hg4 hSp hSpec kq2 kq3 kq4 kq5 hK2 hK3 hK4 hK5 hK6 kq6 x1 y1 K1 b0 b1 k0 hK0 hK1
  go_wp2_with fail
  refine (toSlab_ok _ ao0 cap0 zs0 (hI0.kept K6) hl).mono ?_
  rintro e w7 ⟨g7, rfl, hg7, hR7, hK7⟩
  have ka : Kept w7 (w7.alloc (.cells #[.slice (some ⟨g7, 0, none⟩) zs0.length zs0.length] 26)) := Kept.alloc (Below.refl _ w7) _
  have K7 := (K6.trans hK7).trans ka
  have x7 := (x6.kept hK7).kept ka
  have y7 := (y6.kept hK7).kept ka
  have u7 := Cells.new w7 26 #[.slice (some ⟨g7, 0, none⟩) zs0.length zs0.length]
  have r7 := hR7.kept ka
  clear c6
  go_wp2_with fail
  refine (toIntS_ok _ ao1 cap1 zs1 (hI1.kept K7) h1).mono ?_
  rintro e w8 ⟨rfl, hR8, hK8⟩
  simp only [World.size_alloc] at hR8
  have K8 := K7.trans hK8
  have x8 := x7.kept hK8
  have y8 := y7.kept hK8
  have u8 := u7.kept hK8
  have r8 := r7.kept hK8
  have c8 := y8.cell 0
  clear x7 y7 u7 r7 x6 y6 hR7 hK7 hK8 ka K6 K7
  go_wp2_with fail
  refine (toSlab_ok _ ao2 cap2 zs2 (hI2.kept K8) h2).mono ?_
  rintro e w9 ⟨g9, rfl, hg9, hR9, hK9⟩
  have kb : Kept w9 (w9.alloc (.cells #[.slice (some ⟨g9, 0, none⟩) zs2.length zs2.length] 26)) := Kept.alloc (Below.refl _ w9) _
  have hK9b := hK9.trans kb
  have K9 := K8.trans hK9b
  have x9 := x8.kept hK9b
  have y9 := y8.kept hK9b
  have u9 := u8.kept hK9b
  have r9 := r8.kept hK9b
  have s9 := hR8.kept hK9b
  have v9 := Cells.new w9 26 #[.slice (some ⟨g9, 0, none⟩) zs2.length zs2.length]
  have t9 := hR9.kept kb
  clear c8 x8 y8 u8 r8 hR8 hR9 hK9 hK9b kb K8
  go_wp2_with fail
  refine (toIntS_ok _ ao3 cap3 zs3 (hI3.kept K9) h3).mono ?_
  rintro e wa ⟨rfl, hRa, hKa⟩
  simp only [World.size_alloc] at hRa
  have Ka := K9.trans hKa
  have ca := (u9.kept hKa).cell 0
  have da := (v9.kept hKa).cell 0
  go_wp2_with fail
  refine (hImp _ _ _ _ _ _ _ _ _ (r9.kept hKa).ints (t9.kept hKa).ints (s9.kept hKa).ints hRa.ints (hT.kept Ka)).mono ?_
  rintro e wb ⟨rfl, hKb⟩
  have hKab := hKa.trans hKb
  have Kb := K9.trans hKab
  have xb := x9.kept hKab
  have yb := y9.kept hKab
  have ub := u9.kept hKab
  have vb := v9.kept hKab
  have rb := r9.kept hKab
  have sb := s9.kept hKab
  have tb := t9.kept hKab
  have qb := hRa.kept hKb
  have cb1 := xb.cell 0
  have cb2 := ub.cell 0
  clear ca da x9 y9 u9 v9 r9 s9 t9 hRa hKa hKb hKab Ka K9 hImp
  go_wp2_with fail
  have i5 : Ints wb.drew ao0 zs0 := hI0.kept (Kb.drew)
  have r5' : Row wb.drew g7 zs0 := rb.kept (Below.refl _ wb).drew
  have x5' : Cells wb.drew w7.heap.size 26 #[.slice (some ⟨g7, 0, none⟩) zs0.length zs0.length] := ub.kept (Below.refl _ wb).drew
  go_cut [61] from 57 to 60 (fun s wx => s = .bool false ∧ Kept wb wx)
  case first =>
    go_region_with (first | (go_at_call 19; refine (toSlab_ok _ ao0 cap0 zs0 i5 hl).mono ?_; rintro e wc ⟨gc, rfl, hgc, hRc, hKc⟩; have xc := (x5'.kept hKc).cell 0; have rc := r5'.kept hKc) | (go_at_call 21; refine (eqSlab_ok _ _ _ _ _ zs0 rc.ints hRc.ints (by omega)).mono ?_; rintro e wd ⟨rfl, hKd⟩))
    all_goals (go_wp2_with fail; go_meet; exact ⟨rfl, (Kept.trans (Below.drew (Below.refl _ wb)) hKc).trans hKd⟩)
  case rest =>
  obtain ⟨rfl, hKe⟩ := hcut
  have Ke := Kb.trans hKe
  have se := sb.kept hKe
  have ye := yb.kept hKe
  have ve := vb.kept hKe
  have te := tb.kept hKe
  have qe := qb.kept hKe
  clear i5 r5' x5' cb1 cb2 xb yb ub vb rb sb tb qb hKe Kb
  go_wp2_with fail
  refine (toIntS_ok _ ao1 cap1 zs1 (hI1.kept Ke) h1).mono ?_
  rintro e wf ⟨rfl, hRf, hKf⟩
  go_wp2_with fail
  refine (eqIntS_ok _ _ _ _ _ zs1 (se.kept hKf).ints hRf.ints (by omega)).mono ?_
  rintro e wg ⟨rfl, hKg⟩
  have hKfg := hKf.trans hKg
  have Kg := Ke.trans hKfg
  have yg := ye.kept hKfg
  have vg := ve.kept hKfg
  have tg := te.kept hKfg
  have qg := qe.kept hKfg
  have cg1 := yg.cell 0
  have cg2 := vg.cell 0
  clear se ye ve te qe hRf hKf hKg hKfg Ke
  go_wp2_with fail
  have i6 : Ints wg.drew ao2 zs2 := hI2.kept (Kg.drew)
  have r6' : Row wg.drew g9 zs2 := tg.kept (Below.refl _ wg).drew
  have x6' : Cells wg.drew w9.heap.size 26 #[.slice (some ⟨g9, 0, none⟩) zs2.length zs2.length] := vg.kept (Below.refl _ wg).drew
  go_cut [71] from 67 to 70 (fun s wx => s = .bool false ∧ Kept wg wx)
  case first =>
    go_region_with (first | (go_at_call 19; refine (toSlab_ok _ ao2 cap2 zs2 i6 h2).mono ?_; rintro e wc ⟨gc, rfl, hgc, hRc, hKc⟩; have xc := (x6'.kept hKc).cell 0; have rc := r6'.kept hKc) | (go_at_call 21; refine (eqSlab_ok _ _ _ _ _ zs2 rc.ints hRc.ints (by omega)).mono ?_; rintro e wd ⟨rfl, hKd⟩))
    all_goals (go_wp2_with fail; go_meet; exact ⟨rfl, (Kept.trans (Below.drew (Below.refl _ wg)) hKc).trans hKd⟩)
  case rest =>
  obtain ⟨rfl, hKh⟩ := hcut
  have Kh := Kg.trans hKh
  have qh := qg.kept hKh
  clear i6 r6' x6' cg1 cg2 yg vg tg qg hKh Kg
  go_wp2_with fail
  refine (toIntS_ok _ ao3 cap3 zs3 (hI3.kept Kh) h3).mono ?_
  rintro e wi ⟨rfl, hRi, hKi⟩
  go_wp2_with fail
  refine (eqIntS_ok _ _ _ _ _ zs3 (qh.kept hKi).ints hRi.ints (by omega)).mono ?_
  rintro e wj ⟨rfl, hKj⟩
  go_wp2
  go_ret
  exact ⟨rfl, (Kh.trans hKi).trans hKj⟩

set_option maxRecDepth 100000 in
theorem lifted (os : Os) (started : os.Started) (H : Type) (enc : TypeId × Value → H) :
    ReturnsInHanded {} Tryz.checked os 5 .any (fun w args => (Rows.fnExactSameSightSpec.pre enc Tryz.prog Tryz.f5 [] false w args ∧ laidMetH Tryz.prog Rows.fnExactSameSightRow.laid w) ∧ sizedMet enc Tryz.prog Tryz.f5 (OpenSpec.ofChange Rows.fnExactSameSightSpec) false w args)
      (Rows.fnExactSameSightSpec.post enc Tryz.prog Tryz.f5 false true false false) := by
  refine returnsInHanded_of_change_and (C := Tryz.checked) (X := fun w _ => laidMetH Tryz.prog Rows.fnExactSameSightRow.laid w) (fun _ _ _ hh h => h.of_heap hh) own started (by kernel_rfl) Tryz.func5
    (ChangeSpec.witness_at (enc := enc) (C := Tryz.checked) (os := os) (X := fun w _ => laidMetH Tryz.prog Rows.fnExactSameSightRow.laid w) false (laidWorld os) #[.agg #[.slice none 0 0], .slice none 0 0, .agg #[.slice none 0 0], .slice none 0 0] 8 rfl (by kernel_rfl) (by kernel_rfl) (by kernel_rfl) (by kernel_rfl) (by kernel_rfl) (laidWorld_met os _)) ?_
  intro W base args ds gs before hval0 hW _ _ hL _
  have hval : ∀ (j : Nat) t v, Tryz.f5.params[j]? = some t → args[j]? = some v → Value.okWide Tryz.prog W .any base t v := hval0
  have hW' := hW
  obtain ⟨p, q, hA0, hV, rfl, hfz, hnd⟩ := hW
  have hA : DataW.TrodAll enc Tryz.prog W 0 (fun _ => true) true Tryz.f5.params.toList args.toList ds p := hA0
  rw [Tryz.params5] at hA hval
  obtain ⟨v0, vs0, d0, ds0, p0, q0, hargs0, rfl, rfl, h0, r0⟩ := trodAll_cons hA
  obtain ⟨v1, vs1, d1, ds1, p1, q1, hargs1, rfl, rfl, h1, r1⟩ := trodAll_cons r0
  obtain ⟨v2, vs2, d2, ds2, p2, q2, hargs2, rfl, rfl, h2, r2⟩ := trodAll_cons r1
  obtain ⟨v3, vs3, d3, ds3, p3, q3, hargs3, rfl, rfl, h3, r3⟩ := trodAll_cons r2
  obtain ⟨rfl, rfl, rfl⟩ := trodAll_nil r3
  obtain rfl : args = #[v0, v1, v2, v3] := by cases args; simp_all
  obtain ⟨rfl, rfl⟩ := trodVars_none hV
  clear hA0 hval0
  simp only [List.append_nil] at hW'
  have hlt0 : ∀ x ∈ p0, x.block < W.heap.size := fun x hx => by simpa using hW'.lt x (by simp [hx])
  have hlt1 : ∀ x ∈ p1, x.block < W.heap.size := fun x hx => by simpa using hW'.lt x (by simp [hx])
  have hlt2 : ∀ x ∈ p2, x.block < W.heap.size := fun x hx => by simpa using hW'.lt x (by simp [hx])
  have hlt3 : ∀ x ∈ p3, x.block < W.heap.size := fun x hx => by simpa using hW'.lt x (by simp [hx])
  obtain ⟨ao0, cap0, zs0, rfl, hc0, hm0, hI0⟩ := open_slab (hval 0 36 v0 rfl rfl) h0
  obtain ⟨ao1, cap1, zs1, rfl, hc1, hm1, hI1⟩ := open_list (hval 1 24 v1 rfl rfl) h1
  obtain ⟨ao2, cap2, zs2, rfl, hc2, hm2, hI2⟩ := open_slab (hval 2 36 v2 rfl rfl) h2
  obtain ⟨ao3, cap3, zs3, rfl, hc3, hm3, hI3⟩ := open_list (hval 3 24 v3 rfl rfl) h3
  refine (walk W (tab_of_laid hL) ao0 cap0 zs0 hc0 hm0 hI0 ao1 cap1 zs1 hc1 hm1 hI1 ao2 cap2 zs2 hc2 hm2 hI2 ao3 cap3 zs3 hc3 hm3 hI3).mono fun e W' ⟨he, hk⟩ => ?_
  subst he
  refine ⟨_, rfl, _, _, _, [], p0 ++ (p1 ++ (p2 ++ (p3 ++ []))), [], hW', ?_, ?_, rfl, hk.frame _, fun h => by cases h⟩
  · exact trodAll_cons_mk (shut_bool Tryz.underlying4 _) trodAll_mk0
  · exact (trodAll_cons_mk (Below.trod laid (by kernel_rfl) (of_decide_eq_true (by kernel_rfl)) h0 hk hlt0) (trodAll_cons_mk (Below.trod laid (by kernel_rfl) (of_decide_eq_true (by kernel_rfl)) h1 hk hlt1) (trodAll_cons_mk (Below.trod laid (by kernel_rfl) (of_decide_eq_true (by kernel_rfl)) h2 hk hlt2) (trodAll_cons_mk (Below.trod laid (by kernel_rfl) (of_decide_eq_true (by kernel_rfl)) h3 hk hlt3) trodAll_mk0))))

theorem over : Rows.fnExactSameSightRow.holds Tryz.pinned (OpenSpec.ofChange Rows.fnExactSameSightSpec) :=
  OpenClaim.holds_of_wide 5 Tryz.f5 rfl rfl rfl rfl rfl rfl rfl ⟨rfl, rfl, rfl, rfl, rfl⟩ rfl rfl rfl rfl rfl (by kernel_rfl) Tryz.func5 (by kernel_rfl)
    (of_decide_eq_true (by kernel_rfl)) (by unfold Func.isWrapper; first | (rw [if_pos (by decide +kernel)]; kernel_rfl) | (rw [if_neg (by decide +kernel)]; exact ⟨rfl, rfl⟩))
    (fun os started H enc _ => lifted os started H enc)

theorem proved : Rows.FnExactSameSightCardSaid :=
  Claim7.holds_tied_plain_at .later [] [.data, .data, .data] true (true, Rows.fnExactSameSightCard.stood.harness.2) true
    over (fun _ h => by cases h) (by kernel_rfl) (fun _ h => by cases h) fnExactSameSight_row_tie rfl ⟨rfl, rfl⟩ (by kernel_rfl) rfl
    (fun f fn hf hfn => by
      obtain rfl : f = 5 := Option.some.inj ((show Tryz.prog.funcNamed Rows.fnExactSameSightRow.func = some 5 by kernel_rfl).symm.trans hf) |>.symm
      obtain rfl : fn = Tryz.f5 := (Option.some.inj (Tryz.func5.symm.trans hfn)).symm
      exact ⟨by kernel_rfl, fun j t ht => by
        rw [Tryz.params5] at ht
        have hm : t ∈ [36, 24, 36, 24] := by
          have := List.mem_of_getElem? (l := [36, 24, 36, 24]) (i := j) (a := t) (by simpa using ht)
          exact this
        have hall : ∀ t ∈ [36, 24, 36, 24], Tryz.prog.wantsStandIn t = false := by
          intro t ht
          simp only [List.mem_cons, List.not_mem_nil, or_false] at ht
          rcases ht with rfl | rfl | rfl | rfl <;> kernel_rfl
        exact hall t hm⟩)
    (by kernel_rfl)
#print axioms proved
end Go.Proofs.YtgnpllpinfhccaaGreatDoor.fnExactSameSight
