/-
  The law FnExactStart is proved: at every slab and list of values impl.Start answers as its model, it writes into neither, and its answer owns its memory.
-/
import Derived.Test.YtblonbdagidfjaaRows
import Derived.Deep.RegionWith
import Derived.Deep.CutRange
import Derived.Test.YtblonbdagidfjaaFrame
import Derived.Test.YtblonbdagidfjaaHelpN
import Derived.Test.YtblonbdagidfjaaHelpR
import Derived.Test.YtblonbdagidfjaaHelpT
import Derived.Test.YtblonbdagidfjaaFrame2
import Derived.Test.YtblonbdagidfjaaGrpSh
namespace Go.Proofs.Ytblonbdagidfjaa.fnExactStart
open Go.ChangeShapes Go.WideShapes Go.ChangeAt Go.RowKit
set_option linter.unusedVariables false

theorem own : ownKnob Try.prog.godebug = none := by kernel_rfl

theorem start_le (zs rs : List Int) : (startC zs rs).2.length ≤ zs.length := by
  unfold startC
  split
  · rename_i h
    exact Met.len (Met.meet ⟨List.nodup_nil, by simp⟩ (leads_roots h))
  · simp
theorem mk_start {W : World} {base : Nat} {ph : Int} {gs : List Int} {m : Value} (h : MkO W base m ph gs [] 0) : ∃ ga ba gc bc, m = .agg #[.int .i64 ph, .slice ga gs.length gc, .slice ba 0 bc, .int .i64 0] ∧ OwnL W base (.slice ga gs.length gc) gs ∧ OwnL W base (.slice ba 0 bc) [] ∧ (∀ j, (Value.slice ga gs.length gc).ownBlock = some j → (Value.slice ba 0 bc).ownBlock ≠ some j) := by
  obtain ⟨gv, bv, rfl, h1, h2, h3⟩ := h
  obtain ⟨ga, gc, rfl, _⟩ := h1.ints
  obtain ⟨ba, bc, rfl, _⟩ := h2.ints
  exact ⟨ga, ba, gc, bc, rfl, h1, h2, h3⟩
theorem OwnL.nilT {W : World} {base c : Nat} {ao : Option Addr} (h : OwnL W base (.slice ao 0 c) []) : Ints W ao [] := ⟨by simp, .inl rfl⟩
set_option maxHeartbeats 8000000 in
set_option maxRecDepth 100000 in
theorem walk (w : World) (ao0 : Option Addr) (cap0 : Nat) (zs0 : List Int) (hc0 : zs0.length ≤ cap0) (hm0 : cap0 ≤ maxLen) (hI0 : Ints w ao0 zs0) (ao1 : Option Addr) (cap1 : Nat) (zs1 : List Int) (hc1 : zs1.length ≤ cap1) (hm1 : cap1 ≤ maxLen) (hI1 : Ints w ao1 zs1) :
    Calls Try.prog 4 #[.agg #[.slice ao0 zs0.length cap0], .slice ao1 zs1.length cap1] w fun e w' => e = .returned (.bool true) ∧ Kept w w' := by
  by_cases hr : 1048576 < zs1.length
  · go_enter Try.func4, Try.ntmps4
    go_wp2
    go_ret
    exact ⟨rfl, Kept.alloc (Below.refl _ _) _⟩
  by_cases hb : 1048576 < zs0.length
  · go_enter Try.func4, Try.ntmps4
    go_wp2_with (go_at_call 6; refine (szSlab_big _ ao0 cap0 zs0.length hb (by unfold maxLen at hm0; omega)).mono ?_; rintro e w1 ⟨rfl, hK1⟩)
    go_ret
    exact ⟨rfl, (Kept.alloc (Below.refl _ _) _).trans hK1⟩
  have hl : zs0.length ≤ 1048576 := by omega
  have hrl : zs1.length ≤ 1048576 := by omega
  have hgl := start_le zs0 zs1
  obtain ⟨ph0, hph⟩ : ∃ p, (startC zs0 zs1).1 = p := ⟨_, rfl⟩
  obtain ⟨gg, hgg⟩ : ∃ g, (startC zs0 zs1).2 = g := ⟨_, rfl⟩
  have HSp : Hid (∀ (u : World) (ao ro : Option Addr) (cap rc : Nat), Ints u ao zs0 → Ints u ro zs1 → Calls Try.prog 16 #[.agg #[.slice ao zs0.length cap], .slice ro zs1.length rc] u fun e w' => ∃ m, e = .returned m ∧ MkO w' u.heap.size m ph0 gg [] 0 ∧ Kept u w') := fun u ao ro cap rc h1 h2 => by rw [← hph, ← hgg]; exact spec_Start_ok u ao ro cap rc zs0 zs1 h1 hl h2 hrl
  have HIm : Hid (∀ (u : World) (ao ro : Option Addr) (cap rc : Nat), Ints u ao zs0 → Ints u ro zs1 → Calls Try.prog 17 #[.agg #[.slice ao zs0.length cap], .slice ro zs1.length rc] u fun e w' => ∃ m, e = .returned m ∧ MkO w' u.heap.size m ph0 gg [] 0 ∧ Kept u w') := fun u ao ro cap rc h1 h2 => by rw [← hph, ← hgg]; exact impl_Start_ok u ao ro cap rc zs0 zs1 h1 hl h2 hrl
  rw [hgg] at hgl
  have HI0 : Hid (∀ u, Kept w u → Ints u ao0 zs0) := fun u hu => hI0.kept hu
  have HI1 : Hid (∀ u, Kept w u → Ints u ao1 zs1) := fun u hu => hI1.kept hu
  have b1 := Cells.new w 24 #[.slice ao0 zs0.length cap0]
  have k0 : Kept w (w.alloc (.cells #[.slice ao0 zs0.length cap0] 24)) := Kept.alloc (Below.refl _ _) _
  have hsX : (w.alloc (.cells #[.slice ao0 zs0.length cap0] 24)).heap.size = w.heap.size + 1 := by simp
  clear hph hgg hb hr hI0 hI1
  go_enter Try.func4, Try.ntmps4
  go_upto_region 4 with (fail)
  obtain ⟨WX, hWX⟩ : ∃ WX, w.alloc (.cells #[.slice ao0 zs0.length cap0] 24) = WX := ⟨_, rfl⟩
  rw [hWX] at b1 k0 hsX
  simp only [hWX]
  clear hWX
  have HX1 : Hid (∀ u, Kept WX u → Cells u w.heap.size 24 #[.slice ao0 zs0.length cap0]) := fun u hu => b1.kept hu
  have HKX : Hid (Kept w WX) := k0
  have c0 := b1.cell 0
  clear b1 k0
  go_wp2_with fail
  refine (szSlab_ok _ ao0 cap0 zs0.length hl).mono ?_
  rintro e wA ⟨rfl, hKA⟩
  clear c0
  have c0 := (HX1.out wA hKA).cell 0
  go_wp2_with fail
  refine (toSlab_ok wA ao0 cap0 zs0 (HI0.out _ (Kept.trans HKX.out hKA)) hl).mono ?_
  rintro e wB1 ⟨g2, rfl, _, hR2, hKB1⟩
  clear c0
  go_wp2_with fail
  refine (toIntS_ok wB1 ao1 cap1 zs1 (HI1.out _ (Kept.trans (Kept.trans HKX.out hKA) hKB1)) hrl).mono ?_
  rintro e wB ⟨rfl, hR2b, hKB2⟩
  go_wp2_with fail
  refine (HSp.out wB _ _ _ _ (hR2.kept hKB2).ints hR2b.ints).mono ?_
  rintro e wC ⟨mC, rfl, hMC, hKC⟩
  obtain ⟨gaC, baC, gcC, bcC, rfl, hoC, hpC, _⟩ := mk_start hMC
  have HC1 : Hid (∀ u, Kept wC u → OwnL u wB.heap.size (.slice gaC gg.length gcC) gg) := fun u hu => hoC.keptT hu
  have HC2 : Hid (∀ u, Kept wC u → OwnL u wB.heap.size (.slice baC 0 bcC) []) := fun u hu => hpC.keptT hu
  have HCl : Hid (∀ j, (Value.slice gaC gg.length gcC).ownBlock = some j → j < wC.heap.size) := fun j hj => (hoC.2.lt j hj).2
  have HCm : Hid (∀ j, (Value.slice baC 0 bcC).ownBlock = some j → j < wC.heap.size) := fun j hj => (hpC.2.lt j hj).2
  clear hR2 hR2b hMC hoC hpC
  have hKAC : Kept WX wC := ((hKA.trans hKB1).trans hKB2).trans hKC
  go_upto_region 8 with (fail)
  have xD := Cells.new wC 36 #[.int .i64 ph0, .slice gaC gg.length gcC, .slice baC 0 bcC, .int .i64 0]
  have kD : Kept wC (wC.alloc (.cells #[.int .i64 ph0, .slice gaC gg.length gcC, .slice baC 0 bcC, .int .i64 0] 36)) := Kept.alloc (Below.refl _ _) _
  have sD : (wC.alloc (.cells #[.int .i64 ph0, .slice gaC gg.length gcC, .slice baC 0 bcC, .int .i64 0] 36)).heap.size = wC.heap.size + 1 := by simp
  obtain ⟨WD, hWD⟩ : ∃ WD, wC.alloc (.cells #[.int .i64 ph0, .slice gaC gg.length gcC, .slice baC 0 bcC, .int .i64 0] 36) = WD := ⟨_, rfl⟩
  rw [hWD] at xD kD sD
  simp only [hWD]
  clear hWD
  have HXD : Hid (∀ u, Kept WD u → Cells u wC.heap.size 36 #[.int .i64 ph0, .slice gaC gg.length gcC, .slice baC 0 bcC, .int .i64 0]) := fun u hu => xD.kept hu
  have kXD : Kept WX WD := hKAC.trans kD
  have c0 := (HX1.out WD kXD).cell 0
  go_wp2_with fail
  refine (toSlab_ok WD ao0 cap0 zs0 (HI0.out _ (Kept.trans HKX.out kXD)) hl).mono ?_
  rintro e wE ⟨g4, rfl, hg4, hR4, hKE⟩
  clear c0
  go_upto_region 9 with (fail)
  have xE := Cells.new wE 27 #[.slice (some ⟨g4, 0, none⟩) zs0.length zs0.length]
  have kE : Kept wE (wE.alloc (.cells #[.slice (some ⟨g4, 0, none⟩) zs0.length zs0.length] 27)) := Kept.alloc (Below.refl _ _) _
  have sE : (wE.alloc (.cells #[.slice (some ⟨g4, 0, none⟩) zs0.length zs0.length] 27)).heap.size = wE.heap.size + 1 := by simp
  obtain ⟨WE, hWE⟩ : ∃ WE, wE.alloc (.cells #[.slice (some ⟨g4, 0, none⟩) zs0.length zs0.length] 27) = WE := ⟨_, rfl⟩
  rw [hWE] at xE kE sE
  simp only [hWE]
  clear hWE
  have HsE : Hid _ := sE
  clear sE
  have kDE : Kept WD WE := hKE.trans kE
  have l4 := hR4.lt
  go_wp2_with fail
  refine (toIntS_ok WE ao1 cap1 zs1 (HI1.out _ (Kept.trans (Kept.trans HKX.out kXD) kDE)) hrl).mono ?_
  rintro e wF ⟨rfl, hR4b, hKF⟩
  have l4b := hR4b.lt
  have HXE : Hid (∀ u, Kept wF u → Cells u wE.heap.size 27 #[.slice (some ⟨g4, 0, none⟩) zs0.length zs0.length]) := fun u hu => (xE.kept hKF).kept hu
  have HR4 : Hid (∀ u, Kept wF u → Row u g4 zs0) := fun u hu => ((hR4.kept kE).kept hKF).kept hu
  have HR4b : Hid (∀ u, Kept wF u → Row u WE.heap.size zs1) := fun u hu => hR4b.kept hu
  have kDF : Kept WD wF := kDE.trans hKF
  have c0 := (xE.kept hKF).cell 0
  clear xE hR4 hR4b
  go_wp2_with fail
  refine (HIm.out wF _ _ _ _ (HR4.out _ (Below.refl _ _)).ints (HR4b.out _ (Below.refl _ _)).ints).mono ?_
  rintro e wG ⟨mG, rfl, hMG, hKG⟩
  obtain ⟨gaG, baG, gcG, bcG, rfl, hoG, hpG, hnG⟩ := mk_start hMG
  clear c0
  go_upto_region 11 with (fail)
  have xH := Cells.new wG 36 #[.int .i64 ph0, .slice gaG gg.length gcG, .slice baG 0 bcG, .int .i64 0]
  have kH : Kept wG (wG.alloc (.cells #[.int .i64 ph0, .slice gaG gg.length gcG, .slice baG 0 bcG, .int .i64 0] 36)) := Kept.alloc (Below.refl _ _) _
  obtain ⟨WH, hWH⟩ : ∃ WH, wG.alloc (.cells #[.int .i64 ph0, .slice gaG gg.length gcG, .slice baG 0 bcG, .int .i64 0] 36) = WH := ⟨_, rfl⟩
  rw [hWH] at xH kH
  simp only [hWH]
  clear hWH
  have HXH : Hid (∀ u, Kept WH u → Cells u wG.heap.size 36 #[.int .i64 ph0, .slice gaG gg.length gcG, .slice baG 0 bcG, .int .i64 0]) := fun u hu => xH.kept hu
  have HH1 : Hid (∀ u, Kept WH u → OwnL u wF.heap.size (.slice gaG gg.length gcG) gg) := fun u hu => (hoG.keptT kH).keptT hu
  have HH2 : Hid (∀ u, Kept WH u → OwnL u wF.heap.size (.slice baG 0 bcG) []) := fun u hu => (hpG.keptT kH).keptT hu
  have HHn : Hid _ := hnG
  have kFH : Kept wF WH := hKG.trans kH
  have kDH : Kept WD WH := kDF.trans kFH
  have kXH : Kept WX WH := kXD.trans kDH
  have kCH : Kept wC WH := kD.trans kDH
  have c0 := xH.cell 0
  have c1 := xH.cell 1
  have c2 := xH.cell 2
  have c3 := xH.cell 3
  have e0 := (HXD.out WH kDH).cell 0
  have e1 := (HXD.out WH kDH).cell 1
  have e2 := (HXD.out WH kDH).cell 2
  have e3 := (HXD.out WH kDH).cell 3
  have HGl : Hid (∀ j, (Value.slice gaG gg.length gcG).ownBlock = some j → wF.heap.size ≤ j ∧ j < wG.heap.size) := fun j hj => hoG.2.lt j hj
  have HGm : Hid (∀ j, (Value.slice baG 0 bcG).ownBlock = some j → wF.heap.size ≤ j ∧ j < wG.heap.size) := fun j hj => hpG.2.lt j hj
  clear hoG hpG hnG hMG xH xD
  go_wp2_with fail
  refine (eqMarker_ok WH _ _ _ _ _ _ _ _ ph0 0 gg [] (HH1.out _ (Below.refl _ _)).intsT (HC1.out _ kCH).intsT ⟨by simp, .inl rfl⟩ ⟨by simp, .inl rfl⟩ (by omega) (by simp)).mono ?_
  rintro e wI ⟨rfl, hKI⟩
  clear c0 c1 c2 c3 e0 e1 e2 e3
  go_upto_region 13 with (fail)
  go_cut [42] from 38 to 41 (fun s wx => s = .bool false ∧ Kept wI wx)
  case first =>
    have kq : Kept WH wI.drew := hKI.drew
    have kqX : Kept WX wI.drew := Kept.trans kXH kq
    have kqF : Kept wF wI.drew := Kept.trans kFH kq
    have c0 := (HX1.out _ kqX).cell 0
    have e0 := (HXE.out _ kqF).cell 0
    go_region_with (first | (go_at_call 8; refine (toSlab_ok _ ao0 cap0 zs0 (HI0.out _ (Kept.trans HKX.out kqX)) hl).mono ?_; rintro e w8 ⟨gP, rfl, hgP, hRP, hK8⟩; have kr : Kept wF w8 := Kept.trans kqF hK8; have i0 := (HXE.out _ kr).cell 0) | (go_at_call 12; refine (eqSlab_ok _ _ _ _ _ zs0 (HR4.out _ kr).ints hRP.ints (by omega)).mono ?_; rintro e w9 ⟨rfl, hK9⟩))
    all_goals (go_wp2_with fail; go_meet; exact ⟨rfl, Kept.trans (Kept.trans (Below.refl _ _).drew hK8) hK9⟩)
  case rest =>
  obtain ⟨rfl, hKq⟩ := hcut
  obtain ⟨WI, hWI⟩ : ∃ WI, wc = WI := ⟨_, rfl⟩
  subst hWI
  have kHc : Kept WH wc := hKI.trans hKq
  go_wp2_with fail
  refine (toIntS_ok wc ao1 cap1 zs1 (HI1.out _ (Kept.trans (Kept.trans HKX.out kXH) kHc)) hrl).mono ?_
  rintro e wj ⟨rfl, hRj, hKj⟩
  go_wp2_with fail
  refine (eqIntS_ok wj _ _ _ _ zs1 (HR4b.out _ (kFH.trans (kHc.trans hKj))).ints hRj.ints (by omega)).mono ?_
  rintro e wJ0 ⟨rfl, hKj2⟩
  have kHJ : Kept WH wJ0 := (kHc.trans hKj).trans hKj2
  have kFJ : Kept wF wJ0 := kFH.trans kHJ
  have c0 := (HXE.out _ kFJ).cell 0
  go_wp2_with fail
  refine (markSlab_ok wJ0 g4 zs0.length zs0 (HR4.out _ kFJ) hl).mono ?_
  rintro e w8 ⟨rfl, _, gJ⟩
  clear c0
  have rb8 := (HR4b.out _ kFJ).grown gJ (by intro e; injection e with e; have := HsE.out; omega)
  go_wp2_with fail
  refine (markFrom_ok w8 _ _ (zs0.length + 1) zs1 rb8 hrl (by omega)).mono ?_
  rintro e wK ⟨rfl, gK⟩
  have hsD := hKE.size
  have hsG := hKG.size
  have hsH := kHJ.size
  have hsF := hKF.size
  have hkH := kH.size
  have sE := HsE.out
  have BJ : Below WD.heap.size wJ0 wK := by
    have h1 : Below WD.heap.size wJ0 w8 := Below.grown (Below.refl _ _) gJ (Nat.le_trans kDH.size kHJ.size) (fun k e => by cases e; omega)
    exact Below.grown h1 gK (Nat.le_trans (Nat.le_trans kDH.size kHJ.size) h1.size) (fun k e => by cases e; omega)
  have hCD : wC.heap.size < WD.heap.size := by omega
  have kCJ : Kept wC wJ0 := kCH.trans kHJ
  have oC : OwnL wK wB.heap.size (.slice gaC gg.length gcC) gg := (HC1.out _ kCJ).belowT BJ (fun j hj => by have := HCl.out j hj; omega)
  have oG : OwnL wK wF.heap.size (.slice gaG gg.length gcG) gg := ((HH1.out _ kHJ).kept gJ (fun k e j hj => by cases e; have := (HGl.out j hj).1; omega)).kept gK (fun k e j hj => by cases e; have := (HGl.out j hj).1; omega)
  have pG : OwnL wK wF.heap.size (.slice baG 0 bcG) [] := ((HH2.out _ kHJ).kept gJ (fun k e j hj => by cases e; have := (HGm.out j hj).1; omega)).kept gK (fun k e j hj => by cases e; have := (HGm.out j hj).1; omega)
  have zD : Cells wK wC.heap.size 36 _ := (HXD.out _ (kDH.trans kHJ)).belowT BJ hCD
  have zX : Cells wK w.heap.size 24 _ := (HX1.out _ (kXH.trans kHJ)).belowT BJ (by have := kXD.size; omega)
  have zH : Cells wK wG.heap.size 36 _ := ((HXH.out _ kHJ).grown gJ (fun e => by injection e with e; omega)).grown gK (fun e => by injection e with e; omega)
  have KwK : Kept w wK := Below.trans (Kept.trans HKX.out (kXH.trans kHJ)) (BJ.mono (by have := Below.size HKX.out; have := kXD.size; omega))
  have HoC : Hid (∀ u, Below WD.heap.size wK u → OwnL u wB.heap.size (.slice gaC gg.length gcC) gg) := fun u hu => oC.belowT hu (fun j hj => by have := HCl.out j hj; omega)
  have HzD : Hid (∀ u, Below WD.heap.size wK u → Cells u wC.heap.size 36 #[.int .i64 ph0, .slice gaC gg.length gcC, .slice baC 0 bcC, .int .i64 0]) := fun u hu => zD.belowT hu hCD
  have HzX : Hid (∀ u, Below WD.heap.size wK u → Cells u w.heap.size 24 #[.slice ao0 zs0.length cap0]) := fun u hu => zX.belowT hu (by have := kXD.size; omega)
  have HKw : Hid (∀ u, Below WD.heap.size wK u → Kept w u) := fun u hu => Below.trans KwK (hu.mono (by have := Below.size HKX.out; have := kXD.size; omega))
  have d3 : decide (((zs0.length : Int) + 1 + (zs1.length : Int)) < 0) = false := by rw [decide_eq_false_iff_not]; omega
  have c0 := zH.cell 0
  have c1 := zH.cell 1
  have c2 := zH.cell 2
  have c3 := zH.cell 3
  have e0 := zD.cell 0
  have e1 := zD.cell 1
  have e2 := zD.cell 2
  have e3 := zD.cell 3
  have hsK : wF.heap.size ≤ wK.heap.size := Nat.le_trans (Nat.le_trans kFH.size kHJ.size) BJ.size
  clear gJ gK BJ zD zX KwK rb8 sE
  go_wp2_with fail
  refine (eqMarker_ok wK _ _ _ _ _ _ _ _ ph0 0 gg [] oG.intsT oC.intsT ⟨by simp, .inl rfl⟩ ⟨by simp, .inl rfl⟩ (by omega) (by simp)).mono ?_
  rintro e wL ⟨rfl, hKL⟩
  clear c0 c1 c2 c3 e0 e1 e2 e3
  have zL := zH.kept hKL
  have c0 := zL.cell 0
  have c1 := zL.cell 1
  have c2 := zL.cell 2
  have c3 := zL.cell 3
  go_wp2_with fail
  refine (markMarker_ok wL wF.heap.size ph0 0 _ _ _ _ gg [] (oG.keptT hKL) (pG.keptT hKL) HHn.out (Nat.le_trans hsK hKL.size) (by omega) (by simp)).mono ?_
  rintro e wM ⟨rfl, hI1, hI2, hBM, wM', gM1, gM2⟩
  clear c0 c1 c2 c3
  have zM : Cells wM wG.heap.size 36 _ := (zL.grown gM1 (fun e => by have := (HGl.out _ e.symm).2; omega)).grown gM2 (fun e => by have := (HGm.out _ e.symm).2; omega)
  have BM : Below WD.heap.size wK wM := Below.trans (hKL.mono (by have := kDF.size; omega)) (hBM.mono kDF.size)
  have c0 := zM.cell 0
  have c1 := zM.cell 1
  have c2 := zM.cell 2
  have c3 := zM.cell 3
  clear gM1 gM2 hBM zL oG pG zH oC
  go_wp2_with fail
  refine (heldMarker_ok wM ph0 0 _ _ _ _ gg.length 0 hI1 hI2 (by omega) (by omega)).mono ?_
  rintro e wN ⟨rfl, hKN⟩
  clear c0 c1 c2 c3
  have d4 : decide ((gg.length : Int) + 1 + ((0 : Nat) : Int) < 0) = false := by rw [decide_eq_false_iff_not]; omega
  have BN : Below WD.heap.size wK wN := Below.trans BM (hKN.mono (by have := BM.size; have := kDF.size; omega))
  have zN := zM.kept hKN
  have hI1' := hI1.kept hKN
  have hI2' := hI2.kept hKN
  have c0 := (HzX.out _ BN).cell 0
  have hsN : wF.heap.size ≤ wN.heap.size := Nat.le_trans hsK BN.size
  clear zM hI1 hI2 BM
  go_wp2_with fail
  refine (toSlab_ok wN ao0 cap0 zs0 (HI0.out _ (HKw.out _ BN)) hl).mono ?_
  rintro e wO1 ⟨gO, rfl, _, hRO, hKO1⟩
  clear c0
  have BO1 : Below WD.heap.size wK wO1 := Below.trans BN (hKO1.mono (by have := kDF.size; omega))
  go_wp2_with fail
  refine (toIntS_ok wO1 ao1 cap1 zs1 (HI1.out _ (HKw.out _ BO1)) hrl).mono ?_
  rintro e wO ⟨rfl, hRO2, hKO2⟩
  go_wp2_with fail
  refine (HIm.out wO _ _ _ _ (hRO.kept hKO2).ints hRO2.ints).mono ?_
  rintro e wP ⟨mP, rfl, hMP, hKP⟩
  obtain ⟨gaP, baP, gcP, bcP, rfl, hoP, hpP, _⟩ := mk_start hMP
  clear hRO hRO2 hMP
  go_upto_region 31 with (fail)
  have xQ := Cells.new wP 36 #[.int .i64 ph0, .slice gaP gg.length gcP, .slice baP 0 bcP, .int .i64 0]
  have kQ : Kept wP (wP.alloc (.cells #[.int .i64 ph0, .slice gaP gg.length gcP, .slice baP 0 bcP, .int .i64 0] 36)) := Kept.alloc (Below.refl _ _) _
  obtain ⟨WQ, hWQ⟩ : ∃ WQ, wP.alloc (.cells #[.int .i64 ph0, .slice gaP gg.length gcP, .slice baP 0 bcP, .int .i64 0] 36) = WQ := ⟨_, rfl⟩
  rw [hWQ] at xQ kQ
  simp only [hWQ]
  clear hWQ
  have kNQ : Kept wN WQ := ((hKO1.trans hKO2).trans hKP).trans kQ
  have BQ : Below WD.heap.size wK WQ := Below.trans BN (kNQ.mono (by have := kDF.size; omega))
  have c0 := xQ.cell 0
  have c1 := xQ.cell 1
  have c2 := xQ.cell 2
  have c3 := xQ.cell 3
  have e0 := (HzD.out _ BQ).cell 0
  have e1 := (HzD.out _ BQ).cell 1
  have e2 := (HzD.out _ BQ).cell 2
  have e3 := (HzD.out _ BQ).cell 3
  go_wp2_with fail
  refine (eqMarker_ok WQ _ _ _ _ _ _ _ _ ph0 0 gg [] (hoP.keptT kQ).intsT (HoC.out _ BQ).intsT ⟨by simp, .inl rfl⟩ ⟨by simp, .inl rfl⟩ (by omega) (by simp)).mono ?_
  rintro e wR ⟨rfl, hKR⟩
  clear c0 c1 c2 c3 e0 e1 e2 e3
  have kNR : Kept wN wR := kNQ.trans hKR
  have zR := zN.kept kNR
  have c0 := zR.cell 0
  have c1 := zR.cell 1
  have c2 := zR.cell 2
  have c3 := zR.cell 3
  go_wp2_with fail
  refine (heldMarker_ok wR ph0 0 _ _ _ _ gg.length 0 (hI1'.kept kNR) (hI2'.kept kNR) (by omega) (by omega)).mono ?_
  rintro e wS ⟨rfl, hKS⟩
  have KF : Kept w wS := Kept.trans (Kept.trans (HKw.out _ BN) kNR) hKS
  go_wp2_with fail
  go_ret
  exact ⟨rfl, KF⟩

set_option maxRecDepth 100000 in
theorem lifted (os : Os) (started : os.Started) (H : Type) (enc : TypeId × Value → H) :
    ReturnsInHanded {} Try.checked os 4 .any (Rows.fnExactStartSpec.pre6 enc Try.prog Try.f4 Rows.fnExactStartRow.domain false) (Rows.fnExactStartSpec.post enc Try.prog Try.f4 false true false false) := by
  refine returnsInHanded_of_change (C := Try.checked) own started (by kernel_rfl) Try.func4
    (ChangeSpec.witness6 (enc := enc) (C := Try.checked) false ⟨#[], #[.agg #[.slice none 0 0], .slice none 0 0], []⟩ 8 (by kernel_rfl) (by kernel_rfl) (by kernel_rfl) (by kernel_rfl)) ?_
  intro W base args ds gs before hval0 hW hcnd _
  have hval : ∀ (j : Nat) t v, Try.f4.params[j]? = some t → args[j]? = some v → Value.okWide Try.prog W .any base t v := hval0
  have hW' := hW
  obtain ⟨p, q, hA0, hV, rfl, hfz, hnd⟩ := hW
  have hA : DataW.TrodAll enc Try.prog W 0 (fun _ => true) true Try.f4.params.toList args.toList ds p := hA0
  rw [Try.params4] at hA hval
  obtain ⟨v0, vs0, d0, ds0, p0, q0, hargs0, rfl, rfl, h0, r0⟩ := trodAll_cons hA
  obtain ⟨v1, vs1, d1, ds1, p1, q1, hargs1, rfl, rfl, h1, r1⟩ := trodAll_cons r0
  obtain ⟨rfl, rfl, rfl⟩ := trodAll_nil r1
  obtain rfl : args = #[v0, v1] := by cases args; simp_all
  obtain ⟨rfl, rfl⟩ := trodVars_none hV
  clear hA0 hval0
  simp only [List.append_nil] at hW'
  have hlt0 : ∀ x ∈ p0, x.block < W.heap.size := fun x hx => by simpa using hW'.lt x (by simp [hx])
  have hlt1 : ∀ x ∈ p1, x.block < W.heap.size := fun x hx => by simpa using hW'.lt x (by simp [hx])
  obtain ⟨ao0, cap0, zs0, rfl, hc0, hm0, hI0⟩ := open_slab (hval 0 24 v0 rfl rfl) h0
  obtain ⟨ao1, cap1, zs1, rfl, hc1, hm1, hI1⟩ := open_list (hval 1 22 v1 rfl rfl) h1
  refine (walk W ao0 cap0 zs0 hc0 hm0 hI0 ao1 cap1 zs1 hc1 hm1 hI1).mono fun e W' ⟨he, hk⟩ => ?_
  subst he
  refine ⟨_, rfl, _, _, _, [], p0 ++ (p1 ++ []), [], hW', ?_, ?_, rfl, hk.frame _, fun h => by cases h⟩
  · exact trodAll_cons_mk (shut_bool Try.underlying4 _) trodAll_mk0
  · exact (trodAll_cons_mk (Below.trod laid (by kernel_rfl) (of_decide_eq_true (by kernel_rfl)) h0 hk hlt0) (trodAll_cons_mk (Below.trod laid (by kernel_rfl) (of_decide_eq_true (by kernel_rfl)) h1 hk hlt1) trodAll_mk0))

theorem over : Rows.fnExactStartRow.holds Try.pinned (OpenSpec.ofChange Rows.fnExactStartSpec) :=
  OpenClaim.holds_of_wide 4 Try.f4 rfl rfl rfl rfl rfl rfl rfl ⟨rfl, rfl, rfl, rfl, rfl⟩ rfl rfl rfl rfl rfl (by kernel_rfl) Try.func4 (by kernel_rfl)
    (of_decide_eq_true (by kernel_rfl)) (by unfold Func.isWrapper; first | (rw [if_pos (by decide +kernel)]; kernel_rfl) | (rw [if_neg (by decide +kernel)]; exact ⟨rfl, rfl⟩))
    (fun os started H enc _ => lifted os started H enc)

theorem proved : Rows.FnExactStartSaid :=
  over
#print axioms proved
end Go.Proofs.Ytblonbdagidfjaa.fnExactStart
