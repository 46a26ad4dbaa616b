/-
  The law FnExactFresh is proved: at every marker and place impl.Fresh answers as its model, it writes into no argument, and its answer owns its memory.
-/
import Derived.Test.YtjgafhmgmddgdaaRows
import Derived.Deep.RegionWith
import Derived.Deep.CutRange
import Derived.Test.YtjgafhmgmddgdaaFrame
import Derived.Test.YtjgafhmgmddgdaaHelpR
import Derived.Test.YtjgafhmgmddgdaaHelpT
import Derived.Test.YtjgafhmgmddgdaaFrame8
import Derived.Test.YtjgafhmgmddgdaaMrkF
import Derived.Test.YtjgafhmgmddgdaaZMarF
namespace Go.Proofs.Ytjgafhmgmddgdaa.fnExactFresh
open Go.ChangeShapes Go.WideShapes Go.ChangeAt Go.RowKit
set_option linter.unusedVariables false

theorem own : ownKnob Try.prog.godebug = none := by kernel_rfl

theorem fresh_le (ph : Int) (gs bs : List Int) (x : Int) : (freshL ph gs bs x).length ≤ bs.length + 1 := by
  unfold freshL
  split
  · omega
  · rw [insL_len]; exact Nat.le_refl _
theorem mk_ints {W : World} {base : Nat} {ph at' : Int} {gs bs : List Int} {m : Value} (h : MkO W base m ph gs bs at') : ∃ ga ba gc bc, m = .agg #[.int .i64 ph, .slice ga gs.length gc, .slice ba bs.length bc, .int .i64 at'] ∧ OwnL W base (.slice ga gs.length gc) gs ∧ OwnL W base (.slice ba bs.length bc) bs ∧ (∀ j, (Value.slice ga gs.length gc).ownBlock = some j → (Value.slice ba bs.length bc).ownBlock ≠ some j) := by
  obtain ⟨gv, bv, rfl, h1, h2, h3⟩ := h
  obtain ⟨ga, gc, rfl, _⟩ := h1.ints
  obtain ⟨ba, bc, rfl, _⟩ := h2.ints
  exact ⟨ga, ba, gc, bc, rfl, h1, h2, h3⟩
set_option maxHeartbeats 8000000 in
set_option maxRecDepth 100000 in
theorem walk (w : World) (ph0 at0 : Int) (ga0 ba0 : Option Addr) (gc0 bc0 : Nat) (gs0 bs0 : List Int) (hg0 : gs0.length ≤ gc0 ∧ gc0 ≤ maxLen ∧ Ints w ga0 gs0) (hb0 : bs0.length ≤ bc0 ∧ bc0 ≤ maxLen ∧ Ints w ba0 bs0) (wp0 : (Lit.int .i64 ph0).wf = true) (wa0 : (Lit.int .i64 at0).wf = true) (a1 : Int) (w1 : (Lit.int .i64 a1).wf = true) :
    Calls Try.prog 5 #[.agg #[.int .i64 ph0, .slice ga0 gs0.length gc0, .slice ba0 bs0.length bc0, .int .i64 at0], .int .i64 a1] w fun e w' => e = .returned (.bool true) ∧ Kept w w' := by
  have hmg := hg0.2.1
  have hmb := hb0.2.1
  have hlg := hg0.1
  have hlb := hb0.1
  unfold maxLen at hmg hmb
  have hab := bounds_i64 w1
  have b1 := Cells.new w 26 #[.int .i64 ph0, .slice ga0 gs0.length gc0, .slice ba0 bs0.length bc0, .int .i64 at0]
  have k0 : Kept w (w.alloc (.cells #[.int .i64 ph0, .slice ga0 gs0.length gc0, .slice ba0 bs0.length bc0, .int .i64 at0] 26)) := Kept.alloc (Below.refl _ _) _
  have hsX : (w.alloc (.cells #[.int .i64 ph0, .slice ga0 gs0.length gc0, .slice ba0 bs0.length bc0, .int .i64 at0] 26)).heap.size = w.heap.size + 1 := by simp
  by_cases hbm : (1048576 : Int) - (gs0.length : Int) - (bs0.length : Int) < 0
  · have c0 := b1.cell 0
    have c1 := b1.cell 1
    have c2 := b1.cell 2
    have c3 := b1.cell 3
    go_enter Try.func5, Try.ntmps5
    go_wp2_with fail
    refine (szMarker_over _ ga0 ba0 gc0 bc0 gs0.length bs0.length ph0 at0 _ hbm (by omega) (by omega) (by omega) (by omega)).mono ?_
    rintro e wA ⟨rfl, hKA⟩
    go_wp2_with fail
    go_ret
    exact ⟨rfl, k0.trans hKA⟩
  have hnn : 0 ≤ (1048576 : Int) - (gs0.length : Int) - (bs0.length : Int) := by omega
  have hgl : gs0.length ≤ 1048576 := by omega
  have hbl : bs0.length ≤ 1048576 := by omega
  have HIg : Hid (∀ u, Kept w u → Ints u ga0 gs0) := fun u hu => hg0.2.2.kept hu
  have HIb : Hid (∀ u, Kept w u → Ints u ba0 bs0) := fun u hu => hb0.2.2.kept hu
  have d2 : decide ((1048576 : Int) - (gs0.length : Int) - (bs0.length : Int) < 0) = false := by rw [decide_eq_false_iff_not]; omega
  have hfl := fresh_le ph0 gs0 bs0 a1
  obtain ⟨fr, hfr⟩ : ∃ fr, freshL ph0 gs0 bs0 a1 = fr := ⟨_, rfl⟩
  have HSp : Hid (∀ (u : World) (c1 c2 : Nat) (ga ba : Option Addr) (gc bc : Nat), OwnL u c1 (.slice ga gs0.length gc) gs0 → OwnL u c2 (.slice ba bs0.length bc) bs0 → Calls Try.prog 23 #[.agg #[.int .i64 ph0, .slice ga gs0.length gc, .slice ba bs0.length bc, .int .i64 at0], .int .i64 a1] u fun e w' => ∃ m, e = .returned m ∧ MkO w' u.heap.size m ph0 gs0 fr at0 ∧ Kept u w') := fun u c1 c2 ga ba gc bc h1 h2 => by rw [← hfr]; exact spec_Fresh_ok u c1 c2 ph0 at0 a1 ga ba gc bc gs0 bs0 h1 h2 hgl hbl hab
  have HIm : Hid (∀ (u : World) (c1 c2 : Nat) (ga ba : Option Addr) (gc bc : Nat), OwnL u c1 (.slice ga gs0.length gc) gs0 → OwnL u c2 (.slice ba bs0.length bc) bs0 → Calls Try.prog 24 #[.agg #[.int .i64 ph0, .slice ga gs0.length gc, .slice ba bs0.length bc, .int .i64 at0], .int .i64 a1] u fun e w' => ∃ m, e = .returned m ∧ MkO w' u.heap.size m ph0 gs0 fr at0 ∧ Kept u w') := fun u c1 c2 ga ba gc bc h1 h2 => by rw [← hfr]; exact impl_Fresh_ok u c1 c2 ph0 at0 a1 ga ba gc bc gs0 bs0 h1 h2 hgl hbl hab
  rw [hfr] at hfl
  clear hfr hbm hg0 hb0 wp0 wa0 w1 hab
  go_enter Try.func5, Try.ntmps5
  go_upto_region 2 with (fail)
  obtain ⟨WX, hWX⟩ : ∃ WX, w.alloc (.cells #[.int .i64 ph0, .slice ga0 gs0.length gc0, .slice ba0 bs0.length bc0, .int .i64 at0] 26) = WX := ⟨_, rfl⟩
  rw [hWX] at b1 k0 hsX
  simp only [hWX]
  clear hWX
  have HX1 : Hid (∀ u, Kept WX u → Cells u w.heap.size 26 #[.int .i64 ph0, .slice ga0 gs0.length gc0, .slice ba0 bs0.length bc0, .int .i64 at0]) := fun u hu => b1.kept hu
  have HKX : Hid (Kept w WX) := k0
  have c0 := b1.cell 0
  have c1 := b1.cell 1
  have c2 := b1.cell 2
  have c3 := b1.cell 3
  clear b1 k0
  go_wp2_with fail
  refine (szMarker_ok _ ga0 ba0 gc0 bc0 gs0.length bs0.length ph0 at0 _ hnn (by omega)).mono ?_
  rintro e wA ⟨rfl, hKA⟩
  clear c0 c1 c2 c3
  have c0 := (HX1.out wA hKA).cell 0
  have c1 := (HX1.out wA hKA).cell 1
  have c2 := (HX1.out wA hKA).cell 2
  have c3 := (HX1.out wA hKA).cell 3
  go_wp2_with fail
  refine (toMarker_own wA ga0 ba0 gc0 bc0 ph0 at0 gs0 bs0 (HIg.out _ (Kept.trans HKX.out hKA)) (HIb.out _ (Kept.trans HKX.out hKA)) hgl hbl).mono ?_
  rintro e wB ⟨gB, gB', rfl, _, _, hRB, hRB', hKB⟩
  clear c0 c1 c2 c3
  go_wp2_with fail
  refine (HSp.out wB _ _ _ _ _ _ hRB hRB').mono ?_
  rintro e wC ⟨mC, rfl, hMC, hKC⟩
  obtain ⟨gaC, baC, gcC, bcC, rfl, hoC, hpC, hnC⟩ := mk_ints hMC
  have HC1 : Hid (∀ u, Kept wC u → OwnL u wB.heap.size (.slice gaC gs0.length gcC) gs0) := fun u hu => hoC.keptT hu
  have HC2 : Hid (∀ u, Kept wC u → OwnL u wB.heap.size (.slice baC fr.length bcC) fr) := fun u hu => hpC.keptT hu
  have HCl : Hid (∀ j, (Value.slice gaC gs0.length gcC).ownBlock = some j → j < wC.heap.size) := fun j hj => (hoC.2.lt j hj).2
  have HCm : Hid (∀ j, (Value.slice baC fr.length bcC).ownBlock = some j → j < wC.heap.size) := fun j hj => (hpC.2.lt j hj).2
  clear hRB hRB' hMC hoC hpC hnC
  have hKAC : Kept WX wC := (hKA.trans hKB).trans hKC
  go_upto_region 6 with (fail)
  have xD := Cells.new wC 32 #[.int .i64 ph0, .slice gaC gs0.length gcC, .slice baC fr.length bcC, .int .i64 at0]
  have kD : Kept wC (wC.alloc (.cells #[.int .i64 ph0, .slice gaC gs0.length gcC, .slice baC fr.length bcC, .int .i64 at0] 32)) := Kept.alloc (Below.refl _ _) _
  have sD : (wC.alloc (.cells #[.int .i64 ph0, .slice gaC gs0.length gcC, .slice baC fr.length bcC, .int .i64 at0] 32)).heap.size = wC.heap.size + 1 := by simp
  obtain ⟨WD, hWD⟩ : ∃ WD, wC.alloc (.cells #[.int .i64 ph0, .slice gaC gs0.length gcC, .slice baC fr.length bcC, .int .i64 at0] 32) = WD := ⟨_, rfl⟩
  rw [hWD] at xD kD sD
  simp only [hWD]
  clear hWD
  have HXD : Hid (∀ u, Kept WD u → Cells u wC.heap.size 32 #[.int .i64 ph0, .slice gaC gs0.length gcC, .slice baC fr.length bcC, .int .i64 at0]) := fun u hu => xD.kept hu
  have kXD : Kept WX WD := hKAC.trans kD
  have c0 := (HX1.out WD kXD).cell 0
  have c1 := (HX1.out WD kXD).cell 1
  have c2 := (HX1.out WD kXD).cell 2
  have c3 := (HX1.out WD kXD).cell 3
  go_wp2_with fail
  refine (toMarker_own WD ga0 ba0 gc0 bc0 ph0 at0 gs0 bs0 (HIg.out _ (Kept.trans HKX.out kXD)) (HIb.out _ (Kept.trans HKX.out kXD)) hgl hbl).mono ?_
  rintro e wE ⟨gE, gE', rfl, hgE, hgE', hRE, hRE', hKE⟩
  clear c0 c1 c2 c3
  go_upto_region 7 with (fail)
  have xF := Cells.new wE 32 #[.int .i64 ph0, .slice (some ⟨gE, 0, none⟩) gs0.length gs0.length, .slice (some ⟨gE', 0, none⟩) bs0.length bs0.length, .int .i64 at0]
  have kF : Kept wE (wE.alloc (.cells #[.int .i64 ph0, .slice (some ⟨gE, 0, none⟩) gs0.length gs0.length, .slice (some ⟨gE', 0, none⟩) bs0.length bs0.length, .int .i64 at0] 32)) := Kept.alloc (Below.refl _ _) _
  have sF : (wE.alloc (.cells #[.int .i64 ph0, .slice (some ⟨gE, 0, none⟩) gs0.length gs0.length, .slice (some ⟨gE', 0, none⟩) bs0.length bs0.length, .int .i64 at0] 32)).heap.size = wE.heap.size + 1 := by simp
  obtain ⟨WF, hWF⟩ : ∃ WF, wE.alloc (.cells #[.int .i64 ph0, .slice (some ⟨gE, 0, none⟩) gs0.length gs0.length, .slice (some ⟨gE', 0, none⟩) bs0.length bs0.length, .int .i64 at0] 32) = WF := ⟨_, rfl⟩
  rw [hWF] at xF kF sF
  simp only [hWF]
  clear hWF
  have HXF : Hid (∀ u, Kept WF u → Cells u wE.heap.size 32 #[.int .i64 ph0, .slice (some ⟨gE, 0, none⟩) gs0.length gs0.length, .slice (some ⟨gE', 0, none⟩) bs0.length bs0.length, .int .i64 at0]) := fun u hu => xF.kept hu
  have HE1 : Hid (∀ u, Kept WF u → OwnL u WD.heap.size (.slice (some ⟨gE, 0, none⟩) gs0.length gs0.length) gs0) := fun u hu => (hRE.keptT kF).keptT hu
  have HE2 : Hid (∀ u, Kept WF u → OwnL u WD.heap.size (.slice (some ⟨gE', 0, none⟩) bs0.length bs0.length) bs0) := fun u hu => (hRE'.keptT kF).keptT hu
  have lE := (hRE.2.lt _ rfl).2
  have lE' := (hRE'.2.lt _ rfl).2
  have kDF : Kept WD WF := hKE.trans kF
  have c0 := xF.cell 0
  have c1 := xF.cell 1
  have c2 := xF.cell 2
  have c3 := xF.cell 3
  clear hRE hRE' xF
  go_wp2_with fail
  refine (HIm.out WF _ _ _ _ _ _ (HE1.out _ (Below.refl _ _)) (HE2.out _ (Below.refl _ _))).mono ?_
  rintro e wG ⟨mG, rfl, hMG, hKG⟩
  obtain ⟨gaG, baG, gcG, bcG, rfl, hoG, hpG, hnG⟩ := mk_ints hMG
  clear c0 c1 c2 c3
  go_upto_region 8 with (fail)
  have xH := Cells.new wG 32 #[.int .i64 ph0, .slice gaG gs0.length gcG, .slice baG fr.length bcG, .int .i64 at0]
  have kH : Kept wG (wG.alloc (.cells #[.int .i64 ph0, .slice gaG gs0.length gcG, .slice baG fr.length bcG, .int .i64 at0] 32)) := Kept.alloc (Below.refl _ _) _
  obtain ⟨WH, hWH⟩ : ∃ WH, wG.alloc (.cells #[.int .i64 ph0, .slice gaG gs0.length gcG, .slice baG fr.length bcG, .int .i64 at0] 32) = WH := ⟨_, rfl⟩
  rw [hWH] at xH kH
  simp only [hWH]
  clear hWH
  have HXH : Hid (∀ u, Kept WH u → Cells u wG.heap.size 32 #[.int .i64 ph0, .slice gaG gs0.length gcG, .slice baG fr.length bcG, .int .i64 at0]) := fun u hu => xH.kept hu
  have HH1 : Hid (∀ u, Kept WH u → OwnL u WF.heap.size (.slice gaG gs0.length gcG) gs0) := fun u hu => (hoG.keptT kH).keptT hu
  have HH2 : Hid (∀ u, Kept WH u → OwnL u WF.heap.size (.slice baG fr.length bcG) fr) := fun u hu => (hpG.keptT kH).keptT hu
  have HHn : Hid _ := hnG
  have kFH : Kept WF WH := hKG.trans kH
  have kDH : Kept WD WH := kDF.trans kFH
  have kXH : Kept WX WH := kXD.trans kDH
  have kCH : Kept wC WH := kD.trans kDH
  have c0 := xH.cell 0
  have c1 := xH.cell 1
  have c2 := xH.cell 2
  have c3 := xH.cell 3
  have e0 := (HXD.out WH kDH).cell 0
  have e1 := (HXD.out WH kDH).cell 1
  have e2 := (HXD.out WH kDH).cell 2
  have e3 := (HXD.out WH kDH).cell 3
  have HGlt : Hid ((∀ j, (Value.slice gaG gs0.length gcG).ownBlock = some j → WF.heap.size ≤ j ∧ j < wG.heap.size) ∧ (∀ j, (Value.slice baG fr.length bcG).ownBlock = some j → WF.heap.size ≤ j ∧ j < wG.heap.size)) := ⟨fun j hj => hoG.2.lt j hj, fun j hj => hpG.2.lt j hj⟩
  clear hoG hpG hnG hMG xH xD
  go_wp2_with fail
  refine (eqMarker_ok WH _ _ _ _ _ _ _ _ ph0 at0 gs0 fr (HH1.out _ (Below.refl _ _)).intsT (HC1.out _ kCH).intsT (HH2.out _ (Below.refl _ _)).intsT (HC2.out _ kCH).intsT (by omega) (by omega)).mono ?_
  rintro e wI ⟨rfl, hKI⟩
  clear c0 c1 c2 c3 e0 e1 e2 e3
  go_upto_region 10 with (fail)
  go_cut [35] from 31 to 34 (fun s wx => s = .bool false ∧ Kept wI wx)
  case first =>
    have kq : Kept WH wI.drew := hKI.drew
    have kqX : Kept WX wI.drew := Kept.trans kXH kq
    have kqF : Kept WF wI.drew := Kept.trans kFH kq
    have c0 := (HX1.out _ kqX).cell 0
    have c1 := (HX1.out _ kqX).cell 1
    have c2 := (HX1.out _ kqX).cell 2
    have c3 := (HX1.out _ kqX).cell 3
    have e0 := (HXF.out _ kqF).cell 0
    have e1 := (HXF.out _ kqF).cell 1
    have e2 := (HXF.out _ kqF).cell 2
    have e3 := (HXF.out _ kqF).cell 3
    go_region_with (first | (go_at_call 11; refine (toMarker_ok _ ga0 ba0 gc0 bc0 ph0 at0 gs0 bs0 (HIg.out _ (Kept.trans HKX.out kqX)) (HIb.out _ (Kept.trans HKX.out kqX)) hgl hbl).mono ?_; rintro e w8 ⟨gP, gQ, rfl, hgP, hgQ, hRP, hRQ, hK8⟩; have kr : Kept WF w8 := Kept.trans kqF hK8; have i0 := (HXF.out _ kr).cell 0; have i1 := (HXF.out _ kr).cell 1; have i2 := (HXF.out _ kr).cell 2; have i3 := (HXF.out _ kr).cell 3) | (go_at_call 14; refine (eqMarker_ok _ _ _ _ _ _ _ _ _ ph0 at0 gs0 bs0 (HE1.out _ kr).intsT hRP.ints (HE2.out _ kr).intsT hRQ.ints (by omega) (by omega)).mono ?_; rintro e w9 ⟨rfl, hK9⟩))
    all_goals (go_wp2_with fail; go_meet; exact ⟨rfl, Kept.trans (Kept.trans (Below.refl _ _).drew hK8) hK9⟩)
  case rest =>
  obtain ⟨rfl, hKq⟩ := hcut
  obtain ⟨WI, hWI⟩ : ∃ WI, wc = WI := ⟨_, rfl⟩
  subst hWI
  have kHJ : Kept WH wc := hKI.trans hKq
  have kFJ : Kept WF wc := kFH.trans kHJ
  have c0 := (HXF.out _ kFJ).cell 0
  have c1 := (HXF.out _ kFJ).cell 1
  have c2 := (HXF.out _ kFJ).cell 2
  have c3 := (HXF.out _ kFJ).cell 3
  go_wp2_with fail
  refine (markMarkerR_ok wc ph0 at0 gE gE' gs0.length bs0.length 1 gs0 bs0 (HE1.out _ kFJ).rowT (HE2.out _ kFJ).rowT (by omega) (by omega) hgl hbl).mono ?_
  rintro e wK ⟨rfl, wJ, gJ, gK⟩
  clear c0 c1 c2 c3
  have hsD := hKE.size
  have hsG := hKG.size
  have hsH := kHJ.size
  have hgEF : gE < WF.heap.size ∧ gE' < WF.heap.size := by omega
  have gE0 : WD.heap.size ≤ gE := hgE
  have BJ : Below WD.heap.size wc wK := by
    have h1 : Below WD.heap.size wc wJ := Below.grown (Below.refl _ _) gJ (Nat.le_trans kDH.size kHJ.size) (fun k e => by cases e; exact gE0)
    exact Below.grown h1 gK (Nat.le_trans (Nat.le_trans kDH.size kHJ.size) h1.size) (fun k e => by cases e; omega)
  have hCD : wC.heap.size < WD.heap.size := by omega
  have kCJ : Kept wC wc := kCH.trans kHJ
  have oC : OwnL wK wB.heap.size (.slice gaC gs0.length gcC) gs0 := (HC1.out _ kCJ).belowT BJ (fun j hj => by have := HCl.out j hj; omega)
  have pC : OwnL wK wB.heap.size (.slice baC fr.length bcC) fr := (HC2.out _ kCJ).belowT BJ (fun j hj => by have := HCm.out j hj; omega)
  have oG : OwnL wK WF.heap.size (.slice gaG gs0.length gcG) gs0 := ((HH1.out _ kHJ).kept gJ (fun k e j hj => by cases e; have := ((HH1.out _ kHJ).2.lt j hj).1; omega)).kept gK (fun k e j hj => by cases e; have := ((HH1.out _ kHJ).2.lt j hj).1; omega)
  have pG : OwnL wK WF.heap.size (.slice baG fr.length bcG) fr := ((HH2.out _ kHJ).kept gJ (fun k e j hj => by cases e; have := ((HH2.out _ kHJ).2.lt j hj).1; omega)).kept gK (fun k e j hj => by cases e; have := ((HH2.out _ kHJ).2.lt j hj).1; omega)
  have HGl : Hid (∀ j, (Value.slice gaG gs0.length gcG).ownBlock = some j → WF.heap.size ≤ j ∧ j < wG.heap.size) := HGlt.out.1
  have HGm : Hid (∀ j, (Value.slice baG fr.length bcG).ownBlock = some j → WF.heap.size ≤ j ∧ j < wG.heap.size) := HGlt.out.2
  have zD : Cells wK wC.heap.size 32 _ := (HXD.out _ (kDH.trans kHJ)).belowT BJ hCD
  have zX : Cells wK w.heap.size 26 _ := (HX1.out _ (kXH.trans kHJ)).belowT BJ (by have := kXD.size; omega)
  have zH : Cells wK wG.heap.size 32 _ := ((HXH.out _ kHJ).grown gJ (fun e => by injection e with e; omega)).grown gK (fun e => by injection e with e; omega)
  have KwK : Kept w wK := Below.trans (Kept.trans HKX.out (kXH.trans kHJ)) (BJ.mono (by have := Below.size HKX.out; have := kXD.size; omega))
  have HoC : Hid (∀ u, Below WD.heap.size wK u → OwnL u wB.heap.size (.slice gaC gs0.length gcC) gs0) := fun u hu => oC.belowT hu (fun j hj => by have := HCl.out j hj; omega)
  have HpC : Hid (∀ u, Below WD.heap.size wK u → OwnL u wB.heap.size (.slice baC fr.length bcC) fr) := fun u hu => pC.belowT hu (fun j hj => by have := HCm.out j hj; omega)
  have HzD : Hid (∀ u, Below WD.heap.size wK u → Cells u wC.heap.size 32 #[.int .i64 ph0, .slice gaC gs0.length gcC, .slice baC fr.length bcC, .int .i64 at0]) := fun u hu => zD.belowT hu hCD
  have HzX : Hid (∀ u, Below WD.heap.size wK u → Cells u w.heap.size 26 #[.int .i64 ph0, .slice ga0 gs0.length gc0, .slice ba0 bs0.length bc0, .int .i64 at0]) := fun u hu => zX.belowT hu (by have := kXD.size; omega)
  have HKw : Hid (∀ u, Below WD.heap.size wK u → Kept w u) := fun u hu => Below.trans KwK (hu.mono (by have := Below.size HKX.out; have := kXD.size; omega))
  have d3 : decide (((1 : Nat) : Int) + (gs0.length : Int) + (bs0.length : Int) < 0) = false := by rw [decide_eq_false_iff_not]; omega
  have c0 := zH.cell 0
  have c1 := zH.cell 1
  have c2 := zH.cell 2
  have c3 := zH.cell 3
  have e0 := zD.cell 0
  have e1 := zD.cell 1
  have e2 := zD.cell 2
  have e3 := zD.cell 3
  have hsK : WF.heap.size ≤ wK.heap.size := Nat.le_trans (Nat.le_trans kFH.size kHJ.size) BJ.size
  clear gJ gK BJ zD zX KwK
  go_wp2_with fail
  refine (eqMarker_ok wK _ _ _ _ _ _ _ _ ph0 at0 gs0 fr oG.intsT oC.intsT pG.intsT pC.intsT (by omega) (by omega)).mono ?_
  rintro e wL ⟨rfl, hKL⟩
  clear c0 c1 c2 c3 e0 e1 e2 e3
  have zL := zH.kept hKL
  have c0 := zL.cell 0
  have c1 := zL.cell 1
  have c2 := zL.cell 2
  have c3 := zL.cell 3
  go_wp2_with fail
  refine (markMarker_ok wL WF.heap.size ph0 at0 _ _ _ _ gs0 fr (oG.keptT hKL) (pG.keptT hKL) HHn.out (Nat.le_trans hsK hKL.size) (by omega) (by omega)).mono ?_
  rintro e wM ⟨rfl, hI1, hI2, hBM, wM', gM1, gM2⟩
  clear c0 c1 c2 c3
  have zM : Cells wM wG.heap.size 32 _ := (zL.grown gM1 (fun e => by have := (HGl.out _ e.symm).2; omega)).grown gM2 (fun e => by have := (HGm.out _ e.symm).2; omega)
  have BM : Below WD.heap.size wK wM := Below.trans (hKL.mono (by have := kDF.size; omega)) (hBM.mono kDF.size)
  have c0 := zM.cell 0
  have c1 := zM.cell 1
  have c2 := zM.cell 2
  have c3 := zM.cell 3
  clear gM1 gM2 hBM zL oG pG zH oC pC
  go_wp2_with fail
  refine (heldMarker_ok wM ph0 at0 _ _ _ _ gs0.length fr.length hI1 hI2 (by omega) (by omega)).mono ?_
  rintro e wN ⟨rfl, hKN⟩
  clear c0 c1 c2 c3
  have d4 : decide ((gs0.length : Int) + 1 + (fr.length : Int) < 0) = false := by rw [decide_eq_false_iff_not]; omega
  have BN : Below WD.heap.size wK wN := Below.trans BM (hKN.mono (by have := BM.size; have := kDF.size; omega))
  have zN := zM.kept hKN
  have hI1' := hI1.kept hKN
  have hI2' := hI2.kept hKN
  have c0 := (HzX.out _ BN).cell 0
  have c1 := (HzX.out _ BN).cell 1
  have c2 := (HzX.out _ BN).cell 2
  have c3 := (HzX.out _ BN).cell 3
  have hsN : WF.heap.size ≤ wN.heap.size := Nat.le_trans hsK BN.size
  clear zM hI1 hI2 BM
  go_wp2_with fail
  refine (toMarker_own wN ga0 ba0 gc0 bc0 ph0 at0 gs0 bs0 (HIg.out _ (HKw.out _ BN)) (HIb.out _ (HKw.out _ BN)) hgl hbl).mono ?_
  rintro e wO ⟨gO, gO', rfl, _, _, hRO, hRO', hKO⟩
  clear c0 c1 c2 c3
  go_wp2_with fail
  refine (HIm.out wO _ _ _ _ _ _ hRO hRO').mono ?_
  rintro e wP ⟨mP, rfl, hMP, hKP⟩
  obtain ⟨gaP, baP, gcP, bcP, rfl, hoP, hpP, _⟩ := mk_ints hMP
  clear hRO hRO' hMP
  go_upto_region 25 with (fail)
  have xQ := Cells.new wP 32 #[.int .i64 ph0, .slice gaP gs0.length gcP, .slice baP fr.length bcP, .int .i64 at0]
  have kQ : Kept wP (wP.alloc (.cells #[.int .i64 ph0, .slice gaP gs0.length gcP, .slice baP fr.length bcP, .int .i64 at0] 32)) := Kept.alloc (Below.refl _ _) _
  obtain ⟨WQ, hWQ⟩ : ∃ WQ, wP.alloc (.cells #[.int .i64 ph0, .slice gaP gs0.length gcP, .slice baP fr.length bcP, .int .i64 at0] 32) = WQ := ⟨_, rfl⟩
  rw [hWQ] at xQ kQ
  simp only [hWQ]
  clear hWQ
  have kNQ : Kept wN WQ := (hKO.trans hKP).trans kQ
  have BQ : Below WD.heap.size wK WQ := Below.trans BN (kNQ.mono (by have := kDF.size; omega))
  have c0 := xQ.cell 0
  have c1 := xQ.cell 1
  have c2 := xQ.cell 2
  have c3 := xQ.cell 3
  have e0 := (HzD.out _ BQ).cell 0
  have e1 := (HzD.out _ BQ).cell 1
  have e2 := (HzD.out _ BQ).cell 2
  have e3 := (HzD.out _ BQ).cell 3
  go_wp2_with fail
  refine (eqMarker_ok WQ _ _ _ _ _ _ _ _ ph0 at0 gs0 fr (hoP.keptT kQ).intsT (HoC.out _ BQ).intsT (hpP.keptT kQ).intsT (HpC.out _ BQ).intsT (by omega) (by omega)).mono ?_
  rintro e wR ⟨rfl, hKR⟩
  clear c0 c1 c2 c3 e0 e1 e2 e3
  have kNR : Kept wN wR := kNQ.trans hKR
  have zR := zN.kept kNR
  have c0 := zR.cell 0
  have c1 := zR.cell 1
  have c2 := zR.cell 2
  have c3 := zR.cell 3
  go_wp2_with fail
  refine (heldMarker_ok wR ph0 at0 _ _ _ _ gs0.length fr.length (hI1'.kept kNR) (hI2'.kept kNR) (by omega) (by omega)).mono ?_
  rintro e wS ⟨rfl, hKS⟩
  have KF : Kept w wS := Kept.trans (Kept.trans (HKw.out _ BN) kNR) hKS
  go_wp2_with fail
  go_ret
  exact ⟨rfl, KF⟩

set_option maxRecDepth 100000 in
theorem lifted (os : Os) (started : os.Started) (H : Type) (enc : TypeId × Value → H) :
    ReturnsInHanded {} Try.checked os 5 .any (Rows.fnExactFreshSpec.pre6 enc Try.prog Try.f5 Rows.fnExactFreshRow.domain false) (Rows.fnExactFreshSpec.post enc Try.prog Try.f5 false true false false) := by
  refine returnsInHanded_of_change (C := Try.checked) own started (by kernel_rfl) Try.func5
    (ChangeSpec.witness6 (enc := enc) (C := Try.checked) false ⟨#[], #[.agg #[.int .i64 0, .slice none 0 0, .slice none 0 0, .int .i64 0], .int .i64 0], []⟩ 8 (by kernel_rfl) (by kernel_rfl) (by kernel_rfl) (by kernel_rfl)) ?_
  intro W base args ds gs before hval0 hW hcnd _
  have hval : ∀ (j : Nat) t v, Try.f5.params[j]? = some t → args[j]? = some v → Value.okWide Try.prog W .any base t v := hval0
  have hW' := hW
  obtain ⟨p, q, hA0, hV, rfl, hfz, hnd⟩ := hW
  have hA : DataW.TrodAll enc Try.prog W 0 (fun _ => true) true Try.f5.params.toList args.toList ds p := hA0
  rw [Try.params5] at hA hval
  obtain ⟨v0, vs0, d0, ds0, p0, q0, hargs0, rfl, rfl, h0, r0⟩ := trodAll_cons hA
  obtain ⟨v1, vs1, d1, ds1, p1, q1, hargs1, rfl, rfl, h1, r1⟩ := trodAll_cons r0
  obtain ⟨rfl, rfl, rfl⟩ := trodAll_nil r1
  obtain rfl : args = #[v0, v1] := by cases args; simp_all
  obtain ⟨rfl, rfl⟩ := trodVars_none hV
  clear hA0 hval0
  simp only [List.append_nil] at hW'
  have hlt0 : ∀ x ∈ p0, x.block < W.heap.size := fun x hx => by simpa using hW'.lt x (by simp [hx])
  have hlt1 : ∀ x ∈ p1, x.block < W.heap.size := fun x hx => by simpa using hW'.lt x (by simp [hx])
  obtain ⟨ph0, at0, ga0, ba0, gc0, bc0, gs0, bs0, rfl, hg0, hb0, wp0, wa0⟩ := open_marker (hval 0 26 v0 rfl rfl) h0
  obtain ⟨a1, rfl, ed1, ep1, w1⟩ := open_int Try.underlying3 (hval 1 3 v1 rfl rfl) h1
  refine (walk W ph0 at0 ga0 ba0 gc0 bc0 gs0 bs0 hg0 hb0 wp0 wa0 a1 w1).mono fun e W' ⟨he, hk⟩ => ?_
  subst he
  refine ⟨_, rfl, _, _, _, [], p0 ++ (p1 ++ []), [], hW', ?_, ?_, rfl, hk.frame _, fun h => by cases h⟩
  · exact trodAll_cons_mk (shut_bool Try.underlying4 _) trodAll_mk0
  · exact (trodAll_cons_mk (Below.trod laid (by kernel_rfl) (of_decide_eq_true (by kernel_rfl)) h0 hk hlt0) (trodAll_cons_mk (Below.trod laid (by kernel_rfl) (of_decide_eq_true (by kernel_rfl)) h1 hk hlt1) trodAll_mk0))

theorem over : Rows.fnExactFreshRow.holds Try.pinned (OpenSpec.ofChange Rows.fnExactFreshSpec) :=
  OpenClaim.holds_of_wide 5 Try.f5 rfl rfl rfl rfl rfl rfl rfl ⟨rfl, rfl, rfl, rfl, rfl⟩ rfl rfl rfl rfl rfl (by kernel_rfl) Try.func5 (by kernel_rfl)
    (of_decide_eq_true (by kernel_rfl)) (by unfold Func.isWrapper; first | (rw [if_pos (by decide +kernel)]; kernel_rfl) | (rw [if_neg (by decide +kernel)]; exact ⟨rfl, rfl⟩))
    (fun os started H enc _ => lifted os started H enc)

theorem proved : Rows.FnExactFreshSaid :=
  over
#print axioms proved
end Go.Proofs.Ytjgafhmgmddgdaa.fnExactFresh
