/-
  The law FnExactMarkStep is proved: at every slab, marker and number impl.MarkStep answers as its model, it writes into neither, and its answer owns its memory.
-/
import Derived.Test.YtjgafhmgmddgdaaGreatRows
import Derived.Deep.RegionWith
import Derived.Deep.CutRange
import Derived.Test.YtjgafhmgmddgdaaGreatFrame
import Derived.Test.YtjgafhmgmddgdaaGreatZHelpU
import Derived.Test.YtjgafhmgmddgdaaGreatGrpHq
import Derived.Test.YtjgafhmgmddgdaaGreatFrame8
import Derived.Test.YtjgafhmgmddgdaaGreatGrpSt
namespace Go.Proofs.YtjgafhmgmddgdaaGreat.fnExactMarkStep
open Go.ChangeShapes Go.WideShapes Go.ChangeAt Go.RowKit
set_option linter.unusedVariables false

theorem own : ownKnob Tryz.prog.godebug = none := by kernel_rfl

theorem stepL_two {zs : List Int} (hh : heapR zs = true) : ∀ (k : Nat) (gs bs : List Int), Two zs gs bs → Two zs (stepL zs k gs bs).1 (stepL zs k gs bs).2
  | 0, _, _, h => h
  | _ + 1, [], _, h => h
  | k + 1, a :: _, _, h => stepL_two hh k _ _ (h.ink.shades (leads_slots hh (h.g.2 a (by simp))).1)
theorem stepC_le {zs gs bs : List Int} {ph at' n : Int} (hz : zs.length ≤ 1048576) (hg : gs.length ≤ 1048576) (hb : bs.length ≤ 1048576) : (stepC zs ph gs bs at' n).2.1.length ≤ 1048576 ∧ (stepC zs ph gs bs at' n).2.2.length ≤ 1048576 := by
  unfold stepC
  split
  · rename_i h
    obtain ⟨h1, rfl⟩ := h
    have h2 := stepL_two (mark_one h1).1 n.toNat gs bs (markR_two h1)
    have := h2.g.len
    have := h2.b.len
    exact ⟨by simp only; omega, by simp only; omega⟩
  · exact ⟨hg, hb⟩
theorem mk_ints {W : World} {base : Nat} {ph at' : Int} {gs bs : List Int} {m : Value} (h : MkO W base m ph gs bs at') : ∃ ga ba gc bc, m = .agg #[.int .i64 ph, .slice ga gs.length gc, .slice ba bs.length bc, .int .i64 at'] ∧ OwnL W base (.slice ga gs.length gc) gs ∧ OwnL W base (.slice ba bs.length bc) bs ∧ (∀ j, (Value.slice ga gs.length gc).ownBlock = some j → (Value.slice ba bs.length bc).ownBlock ≠ some j) := by
  obtain ⟨gv, bv, rfl, h1, h2, h3⟩ := h
  obtain ⟨ga, gc, rfl, _⟩ := h1.ints
  obtain ⟨ba, bc, rfl, _⟩ := h2.ints
  exact ⟨ga, ba, gc, bc, rfl, h1, h2, h3⟩
theorem mkG_ints {W : World} {base : Nat} {ph at' : Int} {gs bs : List Int} {m : Value} (h : MkG W base m ph gs bs at') : ∃ ga ba gc bc, m = .agg #[.int .i64 ph, .slice ga gs.length gc, .slice ba bs.length bc, .int .i64 at'] ∧ OwnG W base (.slice ga gs.length gc) gs ∧ OwnL W base (.slice ba bs.length bc) bs ∧ (∀ j, (Value.slice ga gs.length gc).ownBlock = some j → (Value.slice ba bs.length bc).ownBlock ≠ some j) := by
  obtain ⟨gv, bv, rfl, h1, h2, h3⟩ := h
  obtain ⟨ga, gc, rfl, _⟩ := h1.ints
  obtain ⟨ba, bc, rfl, _⟩ := h2.ints
  exact ⟨ga, ba, gc, bc, rfl, h1, h2, h3⟩
theorem Kept.four {a W : World} {B : Nat} (h : Kept a W) (hB : a.heap.size ≤ B) (x y z t : Value) : Kept a ((((W.setCell ⟨B, 0, none⟩ x).setCell ⟨B, 1, none⟩ y).setCell ⟨B, 2, none⟩ z).setCell ⟨B, 3, none⟩ t) := (((h.set (p := ⟨B, 0, none⟩) hB x).set (p := ⟨B, 1, none⟩) hB y).set (p := ⟨B, 2, none⟩) hB z).set (p := ⟨B, 3, none⟩) hB t
theorem OwnG.farG {W : World} {base B o : Nat} {v u : Value} {l : List Int} (h : OwnG W base v l) (hB : B < base) : OwnG (W.setCell ⟨B, o, none⟩ u) base v l := OwnG.kept (row := some B) h ⟨rfl, rfl, rfl, by simp, fun k _ hk => Below.heap_setCell _ _ _ _ (fun e => hk (by rw [show k = B from e]))⟩ (fun k e j hj => by cases e; have := (h.lt j hj).1; omega)
theorem OwnG.four {W : World} {base B : Nat} {v : Value} {l : List Int} (h : OwnG W base v l) (hB : B < base) (x y z t : Value) : OwnG ((((W.setCell ⟨B, 0, none⟩ x).setCell ⟨B, 1, none⟩ y).setCell ⟨B, 2, none⟩ z).setCell ⟨B, 3, none⟩ t) base v l := OwnG.farG (OwnG.farG (OwnG.farG (OwnG.farG h hB) hB) hB) hB
set_option maxHeartbeats 16000000 in
set_option maxRecDepth 100000 in
theorem walk (w : World) (ao0 : Option Addr) (cap0 : Nat) (zs0 : List Int) (hc0 : zs0.length ≤ cap0) (hm0 : cap0 ≤ maxLen) (hI0 : Ints w ao0 zs0) (ph1 at1 : Int) (ga1 ba1 : Option Addr) (gc1 bc1 : Nat) (gs1 bs1 : List Int) (hg1 : gs1.length ≤ gc1 ∧ gc1 ≤ maxLen ∧ Ints w ga1 gs1) (hb1 : bs1.length ≤ bc1 ∧ bc1 ≤ maxLen ∧ Ints w ba1 bs1) (wp1 : (Lit.int .i64 ph1).wf = true) (wa1 : (Lit.int .i64 at1).wf = true) (a2 : Int) (w2 : (Lit.int .i64 a2).wf = true) :
    Calls Tryz.prog 3 #[.agg #[.slice ao0 zs0.length cap0], .agg #[.int .i64 ph1, .slice ga1 gs1.length gc1, .slice ba1 bs1.length bc1, .int .i64 at1], .int .i64 a2] w fun e w' => e = .returned (.bool true) ∧ Kept w w' := by
  have hmg := hg1.2.1
  have hmb := hb1.2.1
  have hlg := hg1.1
  have hlb := hb1.1
  unfold maxLen at hmg hmb hm0
  have hab := bounds_i64 w2
  have b0 := (Cells.new w 24 #[.slice ao0 zs0.length cap0]).alloc (.cells #[.int .i64 ph1, .slice ga1 gs1.length gc1, .slice ba1 bs1.length bc1, .int .i64 at1] 26)
  have b1 := Cells.new (w.alloc (.cells #[.slice ao0 zs0.length cap0] 24)) 26 #[.int .i64 ph1, .slice ga1 gs1.length gc1, .slice ba1 bs1.length bc1, .int .i64 at1]
  have k0 : Kept w ((w.alloc (.cells #[.slice ao0 zs0.length cap0] 24)).alloc (.cells #[.int .i64 ph1, .slice ga1 gs1.length gc1, .slice ba1 bs1.length bc1, .int .i64 at1] 26)) := (Kept.alloc (Below.refl _ _) _).alloc _
  simp only [World.size_alloc] at b1
  by_cases hb : 1048576 < zs0.length
  · go_enter Tryz.func3, Tryz.ntmps3
    go_wp2_with (go_at_call 4; refine (szSlab_big _ ao0 cap0 zs0.length hb (by omega)).mono ?_; rintro e w1 ⟨rfl, hK1⟩)
    go_ret
    exact ⟨rfl, k0.trans hK1⟩
  have hl : zs0.length ≤ 1048576 := by omega
  by_cases hbm : (1048576 : Int) - (zs0.length : Int) - (gs1.length : Int) - (bs1.length : Int) < 0
  · have d1 : decide ((1048576 : Int) - (zs0.length : Int) < 0) = false := by rw [decide_eq_false_iff_not]; omega
    go_enter Tryz.func3, Tryz.ntmps3
    go_wp2_with fail
    refine (szSlab_ok _ ao0 cap0 zs0.length hl).mono ?_
    rintro e w1 ⟨rfl, hK1⟩
    have c0 := (b1.kept hK1).cell 0
    have c1 := (b1.kept hK1).cell 1
    have c2 := (b1.kept hK1).cell 2
    have c3 := (b1.kept hK1).cell 3
    go_wp2_with fail
    refine (szMarker_over _ ga1 ba1 gc1 bc1 gs1.length bs1.length ph1 at1 _ hbm (by omega) (by omega) (by omega) (by omega)).mono ?_
    rintro e w2 ⟨rfl, hK2⟩
    go_wp2_with fail
    go_ret
    exact ⟨rfl, (k0.trans hK1).trans hK2⟩
  have hnn : 0 ≤ (1048576 : Int) - (zs0.length : Int) - (gs1.length : Int) - (bs1.length : Int) := by omega
  have hgl : gs1.length ≤ 1048576 := by omega
  have hbl : bs1.length ≤ 1048576 := by omega
  have hsum : zs0.length + gs1.length + bs1.length ≤ 1048576 := by omega
  have HIs : Hid (∀ u, Kept w u → Ints u ao0 zs0) := fun u hu => hI0.kept hu
  have HIg : Hid (∀ u, Kept w u → Ints u ga1 gs1) := fun u hu => hg1.2.2.kept hu
  have HIb : Hid (∀ u, Kept w u → Ints u ba1 bs1) := fun u hu => hb1.2.2.kept hu
  have d1 : decide ((1048576 : Int) - (zs0.length : Int) < 0) = false := by rw [decide_eq_false_iff_not]; omega
  have d2 : decide ((1048576 : Int) - (zs0.length : Int) - (gs1.length : Int) - (bs1.length : Int) < 0) = false := by rw [decide_eq_false_iff_not]; omega
  obtain ⟨hgg, hbb⟩ := stepC_le (ph := ph1) (at' := at1) (n := a2) hl hgl hbl
  obtain ⟨pp, hpp⟩ : ∃ p, (stepC zs0 ph1 gs1 bs1 at1 a2).1 = p := ⟨_, rfl⟩
  obtain ⟨gg, hge⟩ : ∃ g, (stepC zs0 ph1 gs1 bs1 at1 a2).2.1 = g := ⟨_, rfl⟩
  obtain ⟨bb, hbe⟩ : ∃ b, (stepC zs0 ph1 gs1 bs1 at1 a2).2.2 = b := ⟨_, rfl⟩
  have HSp : Hid (∀ (u : World) (c1 c2 : Nat) (ao ga ba : Option Addr) (cap gc bc : Nat), Ints u ao zs0 → OwnL u c1 (.slice ga gs1.length gc) gs1 → OwnL u c2 (.slice ba bs1.length bc) bs1 → Calls Tryz.prog 6 #[.agg #[.slice ao zs0.length cap], .agg #[.int .i64 ph1, .slice ga gs1.length gc, .slice ba bs1.length bc, .int .i64 at1], .int .i64 a2] u fun e w' => ∃ m, e = .returned m ∧ MkO w' u.heap.size m pp gg bb at1 ∧ Kept u w') := fun u c1 c2 ao ga ba cap gc bc h1 h2 h3 => by rw [← hpp, ← hge, ← hbe]; exact spec_MarkStep_ok u c1 c2 ao ga ba cap gc bc zs0 gs1 bs1 ph1 at1 a2 h1 hl h2 h3 hgl hbl hab
  have HIm : Hid (∀ (u : World) (ao : Option Addr) (cap gE gE' : Nat), Ints u ao zs0 → Ints u (some ⟨gE, 0, none⟩) gs1 → Ints u (some ⟨gE', 0, none⟩) bs1 → Calls Tryz.prog 9 #[.agg #[.slice ao zs0.length cap], .agg #[.int .i64 ph1, .slice (some ⟨gE, 0, none⟩) gs1.length gs1.length, .slice (some ⟨gE', 0, none⟩) bs1.length bs1.length, .int .i64 at1], .int .i64 a2] u fun e w' => ∃ m, e = .returned m ∧ MkG w' u.heap.size m pp gg bb at1 ∧ Kept u w') := fun u ao cap gE gE' h1 h2 h3 => by rw [← hpp, ← hge, ← hbe]; exact impl_MarkStep_ok u ao _ _ cap _ _ zs0 gs1 bs1 ph1 at1 a2 h1 hl ⟨h2, h3, hgl, hbl, Nat.le_refl _, Nat.le_refl _⟩ (by intro h; cases h) (by intro h; cases h) hab
  have HSg : Hid (∀ (u : World) (c1 c2 : Nat) (ao : Option Addr) (gE gE' : Nat), Ints u ao zs0 → OwnL u c1 (.slice (some ⟨gE, 0, none⟩) gs1.length gs1.length) gs1 → OwnL u c2 (.slice (some ⟨gE', 0, none⟩) bs1.length bs1.length) bs1 → Calls Tryz.prog 6 #[.agg #[.slice ao zs0.length zs0.length], .agg #[.int .i64 ph1, .slice (some ⟨gE, 0, none⟩) gs1.length gs1.length, .slice (some ⟨gE', 0, none⟩) bs1.length bs1.length, .int .i64 at1], .int .i64 a2] u fun e w' => ∃ m, e = .returned m ∧ MkG w' u.heap.size m pp gg bb at1 ∧ Kept u w') := fun u c1 c2 ao gE gE' h1 h2 h3 => (HSp.out u c1 c2 ao _ _ zs0.length _ _ h1 h2 h3).mono (by rintro e w' ⟨m, rfl, hM, hk⟩; exact ⟨m, rfl, MkG.of hM, hk⟩)
  rw [hge] at hgg
  rw [hbe] at hbb
  clear hpp hge hbe hb hbm hI0 hg1 hb1 hm0 hc0 wp1 wa1 w2 hab
  go_enter Tryz.func3, Tryz.ntmps3
  go_upto_region 2 with (fail)
  obtain ⟨WX, hWX⟩ : ∃ WX, (w.alloc (.cells #[.slice ao0 zs0.length cap0] 24)).alloc (.cells #[.int .i64 ph1, .slice ga1 gs1.length gc1, .slice ba1 bs1.length bc1, .int .i64 at1] 26) = WX := ⟨_, rfl⟩
  have hsX : Hid (WX.heap.size = w.heap.size + 2) := by rw [← hWX]; simp [Hid]
  rw [hWX] at b0 b1 k0
  simp only [hWX]
  clear hWX
  have HX0 : Hid (∀ u, Kept WX u → Cells u w.heap.size 24 #[.slice ao0 zs0.length cap0]) := fun u hu => b0.kept hu
  have HX1 : Hid (∀ u, Kept WX u → Cells u (w.heap.size + 1) 26 #[.int .i64 ph1, .slice ga1 gs1.length gc1, .slice ba1 bs1.length bc1, .int .i64 at1]) := fun u hu => b1.kept hu
  have HKX : Hid (Kept w WX) := k0
  have s0 := b0.cell 0
  clear b0 b1 k0
  go_wp2_with fail
  refine (szSlab_ok _ ao0 cap0 zs0.length hl).mono ?_
  rintro e w1 ⟨rfl, hK1⟩
  have c0 := (HX1.out w1 hK1).cell 0
  have c1 := (HX1.out w1 hK1).cell 1
  have c2 := (HX1.out w1 hK1).cell 2
  have c3 := (HX1.out w1 hK1).cell 3
  clear s0
  go_wp2_with fail
  refine (szMarker_ok _ ga1 ba1 gc1 bc1 gs1.length bs1.length ph1 at1 _ hnn (by omega)).mono ?_
  rintro e wA ⟨rfl, hK2⟩
  have kA : Kept WX wA := hK1.trans hK2
  clear c0 c1 c2 c3 hK1 hK2
  go_upto_region 8 with (fail)
  have KA : Kept w wA := Kept.trans HKX.out kA
  have XA0 := HX0.out wA kA
  have XA1 := HX1.out wA kA
  have HSVC : Hid (∀ u, Kept wA u → u.cell? ⟨w.heap.size, 0, none⟩ = some (.slice ao0 zs0.length cap0) ∧ u.cell? ⟨w.heap.size + 1, 0, none⟩ = some (.int .i64 ph1) ∧ u.cell? ⟨w.heap.size + 1, 1, none⟩ = some (.slice ga1 gs1.length gc1) ∧ u.cell? ⟨w.heap.size + 1, 2, none⟩ = some (.slice ba1 bs1.length bc1) ∧ u.cell? ⟨w.heap.size + 1, 3, none⟩ = some (.int .i64 at1)) := fun u hu => ⟨(XA0.kept hu).cell 0, (XA1.kept hu).cell 0, (XA1.kept hu).cell 1, (XA1.kept hu).cell 2, (XA1.kept hu).cell 3⟩
  have TV1C : Hid _ := fun (u : World) (hu : Kept wA u) => toSlab_ok u ao0 cap0 zs0 (HIs.out u (Kept.trans KA hu)) hl
  have TV2C : Hid _ := fun (u : World) (hu : Kept wA u) => toMarker_own u ga1 ba1 gc1 bc1 ph1 at1 gs1 bs1 (HIg.out u (Kept.trans KA hu)) (HIb.out u (Kept.trans KA hu)) hgl hbl
  go_cut [8] from 26 to 31 (fun s8 wx => ∃ (BC gcC bcC : Nat) (gaC baC : Option Addr), s8 = .pointer (some ⟨BC, 0, none⟩) ∧ Cells wx BC 29 #[.int .i64 pp, .slice gaC gg.length gcC, .slice baC bb.length bcC, .int .i64 at1] ∧ Ints wx gaC gg ∧ Ints wx baC bb ∧ Kept wA wx)
  case first =>
    have kd : Kept wA wA.drew := (Below.refl _ wA).drew
    have H0 := HSVC.out _ kd
    go_region_held3 (fun u => u.cell? ⟨w.heap.size, 0, none⟩ = some (.slice ao0 zs0.length cap0) ∧ u.cell? ⟨w.heap.size + 1, 0, none⟩ = some (.int .i64 ph1) ∧ u.cell? ⟨w.heap.size + 1, 1, none⟩ = some (.slice ga1 gs1.length gc1) ∧ u.cell? ⟨w.heap.size + 1, 2, none⟩ = some (.slice ba1 bs1.length bc1) ∧ u.cell? ⟨w.heap.size + 1, 3, none⟩ = some (.int .i64 at1))
      (first | exact HSVC.out _ (by assumption) | exact HSVC.out _ (Kept.alloc (by assumption) _) | go_keep)
      ((first
          | (go_at_call 7; refine (TV1C.out wA.drew kd).mono ?_; rintro e wS ⟨gS, rfl, _, hRS, hKS⟩; have kS : Kept wA wS := kd.trans hKS)
          | (go_at_call 7; refine (TV1C.out (wA.drew.alloc (.cells #[.int .i64 0, .slice none 0 0, .slice none 0 0, .int .i64 0] 29)) (kd.alloc _)).mono ?_; rintro e wS ⟨gS, rfl, _, hRS, hKS⟩; have kS : Kept wA wS := (Kept.alloc kd _).trans hKS; have bx : Cells wS wA.heap.size 29 #[.int .i64 0, .slice none 0 0, .slice none 0 0, .int .i64 0] := (Cells.new wA.drew _ _).kept hKS; have bl : wA.heap.size ≤ wA.heap.size := Nat.le_refl _)
          | (go_at_call 8; refine (TV2C.out wS kS).mono ?_; rintro e wB ⟨gM, gN, rfl, _, _, hRM, hRN, hKM⟩; have kB : Kept wA wB := kS.trans hKM; have hRT := hRS.kept hKM; try (have bx := Cells.kept bx hKM))
          | (go_at_call 8; refine (TV2C.out (wS.alloc (.cells #[.int .i64 0, .slice none 0 0, .slice none 0 0, .int .i64 0] 29)) (Kept.alloc kS _)).mono ?_; rintro e wB ⟨gM, gN, rfl, _, _, hRM, hRN, hKM⟩; have kB : Kept wA wB := (Kept.alloc kS _).trans hKM; have hRT := (hRS.kept (Kept.alloc (Below.refl _ _) _)).kept hKM; have bx : Cells wB wS.heap.size 29 #[.int .i64 0, .slice none 0 0, .slice none 0 0, .int .i64 0] := (Cells.new wS _ _).kept hKM; have bl : wA.heap.size ≤ wS.heap.size := kS.size)
          | (go_at_call 6; refine (HSg.out wB _ _ _ _ _ hRT.ints hRM hRN).mono ?_; rintro e wC ⟨mC, rfl, hMC, hKC⟩; obtain ⟨gaC, baC, gcC, bcC, rfl, ho, hp, _⟩ := mkG_ints hMC; have kC : Kept wA wC := kB.trans hKC; try (have hlt := Cells.lt bx; have bx := Cells.kept bx hKC; have d0 := bx.cell 0; have d1 := bx.cell 1; have d2 := bx.cell 2; have d3 := bx.cell 3; have f0 := bx.frozen 0; have f1 := bx.frozen 1; have f2 := bx.frozen 2; have f3 := bx.frozen 3; have q4 := bx.four (.int .i64 pp) (.slice gaC gg.length gcC) (.slice baC bb.length bcC) (.int .i64 at1); have k4 := Kept.four kC bl (.int .i64 pp) (.slice gaC gg.length gcC) (.slice baC bb.length bcC) (.int .i64 at1); have o4 := OwnG.four ho hlt (.int .i64 pp) (.slice gaC gg.length gcC) (.slice baC bb.length bcC) (.int .i64 at1); have p4 := OwnG.four (OwnG.of hp) hlt (.int .i64 pp) (.slice gaC gg.length gcC) (.slice baC bb.length bcC) (.int .i64 at1)))
          | (go_at_call 6; refine (HSg.out (wB.alloc (.cells #[.int .i64 0, .slice none 0 0, .slice none 0 0, .int .i64 0] 29)) _ _ _ _ _ (hRT.kept (Kept.alloc (Below.refl _ _) _)).ints (hRM.keptT (Kept.alloc (Below.refl _ _) _)) (hRN.keptT (Kept.alloc (Below.refl _ _) _))).mono ?_; rintro e wC ⟨mC, rfl, hMC, hKC⟩; obtain ⟨gaC, baC, gcC, bcC, rfl, ho, hp, _⟩ := mkG_ints hMC; have kC : Kept wA wC := (Kept.alloc kB _).trans hKC; have hlt : wB.heap.size < (wB.alloc (.cells #[.int .i64 0, .slice none 0 0, .slice none 0 0, .int .i64 0] 29)).heap.size := (by simp); have bx : Cells wC wB.heap.size 29 #[.int .i64 0, .slice none 0 0, .slice none 0 0, .int .i64 0] := (Cells.new wB _ _).kept hKC; have bl : wA.heap.size ≤ wB.heap.size := kB.size; have d0 := bx.cell 0; have d1 := bx.cell 1; have d2 := bx.cell 2; have d3 := bx.cell 3; have f0 := bx.frozen 0; have f1 := bx.frozen 1; have f2 := bx.frozen 2; have f3 := bx.frozen 3; have q4 := bx.four (.int .i64 pp) (.slice gaC gg.length gcC) (.slice baC bb.length bcC) (.int .i64 at1); have k4 := Kept.four kC bl (.int .i64 pp) (.slice gaC gg.length gcC) (.slice baC bb.length bcC) (.int .i64 at1); have o4 := OwnG.four ho hlt (.int .i64 pp) (.slice gaC gg.length gcC) (.slice baC bb.length bcC) (.int .i64 at1); have p4 := OwnG.four (OwnG.of hp) hlt (.int .i64 pp) (.slice gaC gg.length gcC) (.slice baC bb.length bcC) (.int .i64 at1))))
    all_goals (go_wp2_with fail; go_meet; first | exact ⟨_, _, _, _, _, rfl, q4, o4.intsT, p4.intsT, k4⟩ | exact ⟨_, _, _, _, _, rfl, Cells.new _ _ _, (ho.keptT (Kept.alloc (Below.refl _ _) _)).intsT, (hp.keptT (Kept.alloc (Below.refl _ _) _)).intsT, Kept.alloc kC _⟩)
  case rest =>
  obtain ⟨BC, gcC, bcC, gaC, baC, rfl, xC, hoC, hpC, kAC⟩ := hcut
  obtain ⟨wC, hwC⟩ : ∃ x, x = wc := ⟨_, rfl⟩
  subst hwC
  have HC0 : Hid (∀ u, Kept wC u → Cells u w.heap.size 24 #[.slice ao0 zs0.length cap0]) := fun u hu => HX0.out u ((kA.trans kAC).trans hu)
  have HC1 : Hid (∀ u, Kept wC u → Cells u (w.heap.size + 1) 26 #[.int .i64 ph1, .slice ga1 gs1.length gc1, .slice ba1 bs1.length bc1, .int .i64 at1]) := fun u hu => HX1.out u ((kA.trans kAC).trans hu)
  have HCC : Hid (∀ u, Kept wC u → Cells u BC 29 #[.int .i64 pp, .slice gaC gg.length gcC, .slice baC bb.length bcC, .int .i64 at1]) := fun u hu => xC.kept hu
  have HCg : Hid (∀ u, Kept wC u → Ints u gaC gg) := fun u hu => hoC.kept hu
  have HCb : Hid (∀ u, Kept wC u → Ints u baC bb) := fun u hu => hpC.kept hu
  have HKC : Hid (∀ u, Kept wC u → Kept w u) := fun u hu => Kept.trans (Kept.trans KA kAC) hu
  clear xC hoC hpC kAC KA XA0 XA1 kA HX0 HX1 HKX hsX HSVC TV1C TV2C HSp HSg
  have c0 := (HC0.out wC (Below.refl _ _)).cell 0
  go_wp2_with fail
  refine (toSlab_ok wC ao0 cap0 zs0 (HIs.out _ (HKC.out _ (Below.refl _ _))) hl).mono ?_
  rintro e wE ⟨g4, rfl, hg4, hR4, hKE⟩
  clear c0
  go_upto_region 10 with (fail)
  have xE := Cells.new wE 31 #[.slice (some ⟨g4, 0, none⟩) zs0.length zs0.length]
  have kE : Kept wE (wE.alloc (.cells #[.slice (some ⟨g4, 0, none⟩) zs0.length zs0.length] 31)) := Kept.alloc (Below.refl _ _) _
  have sE : Hid ((wE.alloc (.cells #[.slice (some ⟨g4, 0, none⟩) zs0.length zs0.length] 31)).heap.size = wE.heap.size + 1) := by simp [Hid]
  obtain ⟨WE, hWE⟩ : ∃ WE, wE.alloc (.cells #[.slice (some ⟨g4, 0, none⟩) zs0.length zs0.length] 31) = WE := ⟨_, rfl⟩
  rw [hWE] at xE kE sE
  simp only [hWE]
  clear hWE
  have kCE : Kept wC WE := hKE.trans kE
  have r4 := hR4.kept kE
  have c0 := (HC1.out WE kCE).cell 0
  have c1 := (HC1.out WE kCE).cell 1
  have c2 := (HC1.out WE kCE).cell 2
  have c3 := (HC1.out WE kCE).cell 3
  have l4 : Hid (g4 < wE.heap.size) := hR4.lt
  clear hR4
  go_wp2_with fail
  refine (toMarker_own WE ga1 ba1 gc1 bc1 ph1 at1 gs1 bs1 (HIg.out _ (HKC.out _ kCE)) (HIb.out _ (HKC.out _ kCE)) hgl hbl).mono ?_
  rintro e wF ⟨gE, gE', rfl, hgE, hgE', hRE, hRE', hKF⟩
  clear c0 c1 c2 c3
  go_upto_region 11 with (fail)
  have xF := Cells.new wF 29 #[.int .i64 ph1, .slice (some ⟨gE, 0, none⟩) gs1.length gs1.length, .slice (some ⟨gE', 0, none⟩) bs1.length bs1.length, .int .i64 at1]
  have kF : Kept wF (wF.alloc (.cells #[.int .i64 ph1, .slice (some ⟨gE, 0, none⟩) gs1.length gs1.length, .slice (some ⟨gE', 0, none⟩) bs1.length bs1.length, .int .i64 at1] 29)) := Kept.alloc (Below.refl _ _) _
  have sF : Hid ((wF.alloc (.cells #[.int .i64 ph1, .slice (some ⟨gE, 0, none⟩) gs1.length gs1.length, .slice (some ⟨gE', 0, none⟩) bs1.length bs1.length, .int .i64 at1] 29)).heap.size = wF.heap.size + 1) := by simp [Hid]
  obtain ⟨WF, hWF⟩ : ∃ WF, wF.alloc (.cells #[.int .i64 ph1, .slice (some ⟨gE, 0, none⟩) gs1.length gs1.length, .slice (some ⟨gE', 0, none⟩) bs1.length bs1.length, .int .i64 at1] 29) = WF := ⟨_, rfl⟩
  rw [hWF] at xF kF sF
  simp only [hWF]
  clear hWF
  have kEF : Kept WE WF := hKF.trans kF
  have kCF : Kept wC WF := kCE.trans kEF
  have HXE : Hid (∀ u, Kept WF u → Cells u wE.heap.size 31 #[.slice (some ⟨g4, 0, none⟩) zs0.length zs0.length]) := fun u hu => (xE.kept kEF).kept hu
  have HXF : Hid (∀ u, Kept WF u → Cells u wF.heap.size 29 #[.int .i64 ph1, .slice (some ⟨gE, 0, none⟩) gs1.length gs1.length, .slice (some ⟨gE', 0, none⟩) bs1.length bs1.length, .int .i64 at1]) := fun u hu => xF.kept hu
  have HR4 : Hid (∀ u, Kept WF u → Row u g4 zs0) := fun u hu => (r4.kept kEF).kept hu
  have HE1 : Hid (∀ u, Kept WF u → OwnL u WE.heap.size (.slice (some ⟨gE, 0, none⟩) gs1.length gs1.length) gs1) := fun u hu => (hRE.keptT kF).keptT hu
  have HE2 : Hid (∀ u, Kept WF u → OwnL u WE.heap.size (.slice (some ⟨gE', 0, none⟩) bs1.length bs1.length) bs1) := fun u hu => (hRE'.keptT kF).keptT hu
  have lE : Hid (gE < wF.heap.size) := (hRE.2.lt _ rfl).2
  have lE' : Hid (gE' < wF.heap.size) := (hRE'.2.lt _ rfl).2
  have HGE : Hid (WE.heap.size ≤ gE) := hgE
  have HGE' : Hid (gE < gE') := hgE'
  have HG4 : Hid (wC.heap.size ≤ g4) := hg4
  clear xE xF r4 hRE hRE' hgE hgE' hg4
  have c0 := (HXE.out WF (Below.refl _ _)).cell 0
  have e0 := (HXF.out WF (Below.refl _ _)).cell 0
  have e1 := (HXF.out WF (Below.refl _ _)).cell 1
  have e2 := (HXF.out WF (Below.refl _ _)).cell 2
  have e3 := (HXF.out WF (Below.refl _ _)).cell 3
  go_wp2_with fail
  refine (HIm.out WF _ _ gE gE' (HR4.out _ (Below.refl _ _)).ints (HE1.out _ (Below.refl _ _)).intsT (HE2.out _ (Below.refl _ _)).intsT).mono ?_
  rintro e wG ⟨mG, rfl, hMG, hKG⟩
  obtain ⟨gaG, baG, gcG, bcG, rfl, hoG, hpG, hnG⟩ := mkG_ints hMG
  clear c0 e0 e1 e2 e3
  go_upto_region 12 with (fail)
  have xH := Cells.new wG 29 #[.int .i64 pp, .slice gaG gg.length gcG, .slice baG bb.length bcG, .int .i64 at1]
  have kH : Kept wG (wG.alloc (.cells #[.int .i64 pp, .slice gaG gg.length gcG, .slice baG bb.length bcG, .int .i64 at1] 29)) := Kept.alloc (Below.refl _ _) _
  obtain ⟨WH, hWH⟩ : ∃ WH, wG.alloc (.cells #[.int .i64 pp, .slice gaG gg.length gcG, .slice baG bb.length bcG, .int .i64 at1] 29) = WH := ⟨_, rfl⟩
  rw [hWH] at xH kH
  simp only [hWH]
  clear hWH
  have HXH : Hid (∀ u, Kept WH u → Cells u wG.heap.size 29 #[.int .i64 pp, .slice gaG gg.length gcG, .slice baG bb.length bcG, .int .i64 at1]) := fun u hu => xH.kept hu
  have HH1 : Hid (∀ u, Kept WH u → OwnG u WF.heap.size (.slice gaG gg.length gcG) gg) := fun u hu => (hoG.keptT kH).keptT hu
  have HH2 : Hid (∀ u, Kept WH u → OwnL u WF.heap.size (.slice baG bb.length bcG) bb) := fun u hu => (hpG.keptT kH).keptT hu
  have HHn : Hid _ := hnG
  have HGl : Hid (∀ j, (Value.slice gaG gg.length gcG).ownBlock = some j → WF.heap.size ≤ j ∧ j < wG.heap.size) := fun j hj => hoG.lt j hj
  have HGm : Hid (∀ j, (Value.slice baG bb.length bcG).ownBlock = some j → WF.heap.size ≤ j ∧ j < wG.heap.size) := fun j hj => hpG.2.lt j hj
  have kFH : Kept WF WH := hKG.trans kH
  have kCH : Kept wC WH := kCF.trans kFH
  have c0 := xH.cell 0
  have c1 := xH.cell 1
  have c2 := xH.cell 2
  have c3 := xH.cell 3
  have e0 := (HCC.out WH kCH).cell 0
  have e1 := (HCC.out WH kCH).cell 1
  have e2 := (HCC.out WH kCH).cell 2
  have e3 := (HCC.out WH kCH).cell 3
  clear hoG hpG hnG hMG xH
  go_wp2_with fail
  refine (eqMarker_ok WH _ _ _ _ _ _ _ _ pp at1 gg bb (HH1.out _ (Below.refl _ _)).intsT (HCg.out _ kCH) (HH2.out _ (Below.refl _ _)).intsT (HCb.out _ kCH) (by omega) (by omega)).mono ?_
  rintro e wI ⟨rfl, hKI⟩
  clear c0 c1 c2 c3 e0 e1 e2 e3
  go_upto_region 14 with (fail)
  go_cut [48] from 44 to 47 (fun s wx => s = .bool false ∧ Kept wI wx)
  case first =>
    have kq : Kept WH wI.drew := hKI.drew
    have kqC : Kept wC wI.drew := Kept.trans kCH kq
    have kqF : Kept WF wI.drew := Kept.trans kFH kq
    have c0 := (HC0.out _ kqC).cell 0
    have e0 := (HXE.out _ kqF).cell 0
    go_region_with (first | (go_at_call 7; refine (toSlab_ok _ ao0 cap0 zs0 (HIs.out _ (HKC.out _ kqC)) hl).mono ?_; rintro e w8 ⟨gP, rfl, hgP, hRP, hK8⟩; have kr : Kept WF w8 := Kept.trans kqF hK8; have i0 := (HXE.out _ kr).cell 0) | (go_at_call 11; refine (eqSlab_ok _ _ _ _ _ zs0 (HR4.out _ kr).ints hRP.ints (by omega)).mono ?_; rintro e w9 ⟨rfl, hK9⟩))
    all_goals (go_wp2_with fail; go_meet; exact ⟨rfl, Kept.trans (Kept.trans (Below.refl _ _).drew hK8) hK9⟩)
  case rest =>
  obtain ⟨rfl, hKq⟩ := hcut
  obtain ⟨wJ, hwJ⟩ : ∃ x, x = wc := ⟨_, rfl⟩
  subst hwJ
  have kHJ : Kept WH wJ := hKI.trans hKq
  clear hKI hKq
  go_upto_region 16 with (fail)
  go_cut [53] from 49 to 52 (fun s wx => s = .bool false ∧ Kept wJ wx)
  case first =>
    have kq : Kept WH wJ.drew := kHJ.drew
    have kqC : Kept wC wJ.drew := Kept.trans kCH kq
    have kqF : Kept WF wJ.drew := Kept.trans kFH kq
    have c0 := (HC1.out _ kqC).cell 0
    have c1 := (HC1.out _ kqC).cell 1
    have c2 := (HC1.out _ kqC).cell 2
    have c3 := (HC1.out _ kqC).cell 3
    have e0 := (HXF.out _ kqF).cell 0
    have e1 := (HXF.out _ kqF).cell 1
    have e2 := (HXF.out _ kqF).cell 2
    have e3 := (HXF.out _ kqF).cell 3
    go_region_with (first | (go_at_call 8; refine (toMarker_ok _ ga1 ba1 gc1 bc1 ph1 at1 gs1 bs1 (HIg.out _ (HKC.out _ kqC)) (HIb.out _ (HKC.out _ kqC)) hgl hbl).mono ?_; rintro e w8 ⟨gP, gQ, rfl, hgP, hgQ, hRP, hRQ, hK8⟩; have kr : Kept WF w8 := Kept.trans kqF hK8; have i0 := (HXF.out _ kr).cell 0; have i1 := (HXF.out _ kr).cell 1; have i2 := (HXF.out _ kr).cell 2; have i3 := (HXF.out _ kr).cell 3) | (go_at_call 10; refine (eqMarker_ok _ _ _ _ _ _ _ _ _ ph1 at1 gs1 bs1 (HE1.out _ kr).intsT hRP.ints (HE2.out _ kr).intsT hRQ.ints (by omega) (by omega)).mono ?_; rintro e w9 ⟨rfl, hK9⟩))
    all_goals (go_wp2_with fail; go_meet; exact ⟨rfl, Kept.trans (Kept.trans (Below.refl _ _).drew hK8) hK9⟩)
  case rest =>
  obtain ⟨rfl, hKq⟩ := hcut
  obtain ⟨wK, hwK⟩ : ∃ x, x = wc := ⟨_, rfl⟩
  subst hwK
  have kHK : Kept WH wK := kHJ.trans hKq
  have kFK : Kept WF wK := kFH.trans kHK
  clear hKq kHJ
  have c0 := (HXE.out _ kFK).cell 0
  go_wp2_with fail
  refine (markSlab_ok wK g4 zs0.length zs0 (HR4.out _ kFK) hl).mono ?_
  rintro e wL ⟨rfl, _, gL⟩
  clear c0
  have hne4 : g4 ≠ gE ∧ g4 ≠ gE' ∧ g4 ≠ wF.heap.size := by
    have h1 := l4.out; have h2 := HGE.out; have h3 := HGE'.out; have h4 := sE.out; have h5 := hKF.size
    omega
  have xFL := (HXF.out _ kFK).grown gL (by intro e; injection e with e; omega)
  have rE := (Row.grown (HE1.out _ kFK).rowT gL (by intro e; injection e with e; omega))
  have rE' := (Row.grown (HE2.out _ kFK).rowT gL (by intro e; injection e with e; omega))
  have c0 := xFL.cell 0
  have c1 := xFL.cell 1
  have c2 := xFL.cell 2
  have c3 := xFL.cell 3
  go_wp2_with fail
  refine (markMarkerR_ok wL ph1 at1 gE gE' gs1.length bs1.length (zs0.length + 1) gs1 bs1 rE rE' (by have := HGE'.out; omega) (by omega) hgl hbl).mono ?_
  rintro e wN ⟨rfl, wM, gM, gN⟩
  clear c0 c1 c2 c3 rE rE' xFL
  have hb4 : Hid (wC.heap.size ≤ g4 ∧ wC.heap.size ≤ gE ∧ wC.heap.size ≤ gE' ∧ g4 < WF.heap.size ∧ gE < WF.heap.size ∧ gE' < WF.heap.size) := by
    have h1 := l4.out; have h2 := HGE.out; have h3 := HGE'.out; have h4 := sE.out; have h5 := hKF.size; have h6 := HG4.out; have h7 := sF.out; have h8 := lE.out; have h9 := lE'.out; have h10 := hKE.size
    rw [Hid]
    omega
  have kCN : Kept wC wN := by
    obtain ⟨p1, p2, p3, _, _, _⟩ := hb4.out
    have h0 : Kept wC wK := kCH.trans kHK
    have h1 : Kept wC wL := Kept.grownRow h0 gL (fun k e => by cases e; exact p1)
    have h2 : Kept wC wM := Kept.grownRow h1 gM (fun k e => by cases e; exact p2)
    exact Kept.grownRow h2 gN (fun k e => by cases e; exact p3)
  have hGs := hKG.size
  have xHN : Cells wN wG.heap.size 29 #[.int .i64 pp, .slice gaG gg.length gcG, .slice baG bb.length bcG, .int .i64 at1] := by
    obtain ⟨_, _, _, q1, q2, q3⟩ := hb4.out
    exact (((HXH.out _ kHK).grown gL (by intro e; injection e with e; omega)).grown gM (by intro e; injection e with e; omega)).grown gN (by intro e; injection e with e; omega)
  have oG : OwnG wN WF.heap.size (.slice gaG gg.length gcG) gg := by
    obtain ⟨_, _, _, q1, q2, q3⟩ := hb4.out
    exact OwnG.kept (OwnG.kept (OwnG.kept (HH1.out _ kHK) gL (fun k e j hj => by cases e; have := (HGl.out j hj).1; omega)) gM (fun k e j hj => by cases e; have := (HGl.out j hj).1; omega)) gN (fun k e j hj => by cases e; have := (HGl.out j hj).1; omega)
  have pG : OwnL wN WF.heap.size (.slice baG bb.length bcG) bb := by
    obtain ⟨_, _, _, q1, q2, q3⟩ := hb4.out
    exact OwnL.kept (OwnL.kept (OwnL.kept (HH2.out _ kHK) gL (fun k e j hj => by cases e; have := (HGm.out j hj).1; omega)) gM (fun k e j hj => by cases e; have := (HGm.out j hj).1; omega)) gN (fun k e j hj => by cases e; have := (HGm.out j hj).1; omega)
  have hsN : Hid (WF.heap.size ≤ wN.heap.size) := by
    have := kFK.size; have := gL.size; have := gM.size; have := gN.size
    rw [Hid]; omega
  have HxH : Hid _ := xHN
  have HoG : Hid _ := oG
  have HpG : Hid _ := pG
  have d3 : decide ((zs0.length : Int) + 1 + (gs1.length : Int) + (bs1.length : Int) < 0) = false := by rw [decide_eq_false_iff_not]; omega
  have d3' : decide (((zs0.length + 1 : Nat) : Int) + (gs1.length : Int) + (bs1.length : Int) < 0) = false := by rw [decide_eq_false_iff_not]; omega
  have c0 := xHN.cell 0
  have c1 := xHN.cell 1
  have c2 := xHN.cell 2
  have c3 := xHN.cell 3
  have e0 := (HCC.out _ kCN).cell 0
  have e1 := (HCC.out _ kCN).cell 1
  have e2 := (HCC.out _ kCN).cell 2
  have e3 := (HCC.out _ kCN).cell 3
  clear gL gM gN oG pG xHN hne4
  go_wp2_with fail
  refine (eqMarker_ok wN _ _ _ _ _ _ _ _ pp at1 gg bb (OwnG.intsT HoG.out) (HCg.out _ kCN) (OwnL.intsT HpG.out) (HCb.out _ kCN) (by omega) (by omega)).mono ?_
  rintro e wO ⟨rfl, hKO⟩
  clear c0 c1 c2 c3 e0 e1 e2 e3
  have xO := Cells.kept HxH.out hKO
  have c0 := xO.cell 0
  have c1 := xO.cell 1
  have c2 := xO.cell 2
  have c3 := xO.cell 3
  go_wp2_with fail
  refine (markMarkerG_ok wO WF.heap.size pp at1 _ _ _ _ gg bb (OwnG.keptT HoG.out hKO) (OwnL.keptT HpG.out hKO) HHn.out (Nat.le_trans hsN.out hKO.size) (by omega) (by omega)).mono ?_
  rintro e wP ⟨rfl, hI1, hI2, hBP, wP', gP1, gP2⟩
  clear c0 c1 c2 c3
  have xP : Cells wP wG.heap.size 29 #[.int .i64 pp, .slice gaG gg.length gcG, .slice baG bb.length bcG, .int .i64 at1] := (xO.grown gP1 (fun e => by have := (HGl.out _ e.symm).2; omega)).grown gP2 (fun e => by have := (HGm.out _ e.symm).2; omega)
  have kCP : Kept wC wP := Below.trans (Kept.trans kCN hKO) (hBP.mono kCF.size)
  have c0 := xP.cell 0
  have c1 := xP.cell 1
  have c2 := xP.cell 2
  have c3 := xP.cell 3
  clear gP1 gP2 hBP xO
  go_wp2_with fail
  refine (heldMarker_ok wP pp at1 _ _ _ _ gg.length bb.length hI1 hI2 (by omega) (by omega)).mono ?_
  rintro e wQ ⟨rfl, hKQ⟩
  clear c0 c1 c2 c3
  have d4 : decide ((gg.length : Int) + 1 + (bb.length : Int) < 0) = false := by rw [decide_eq_false_iff_not]; omega
  have kCQ : Kept wC wQ := kCP.trans hKQ
  have HQx : Hid (∀ u, Kept wQ u → Cells u wG.heap.size 29 #[.int .i64 pp, .slice gaG gg.length gcG, .slice baG bb.length bcG, .int .i64 at1]) := fun u hu => (xP.kept hKQ).kept hu
  have HQ1 : Hid (∀ u, Kept wQ u → Ints u gaG (marksF 1 gg.length)) := fun u hu => (hI1.kept hKQ).kept hu
  have HQ2 : Hid (∀ u, Kept wQ u → Ints u baG (marksF (gg.length + 1) bb.length)) := fun u hu => (hI2.kept hKQ).kept hu
  clear hI1 hI2 xP kCP hKQ
  go_upto_region 31 with (fail)
  have KQ := HKC.out wQ kCQ
  have XQ0 := HC0.out wQ kCQ
  have XQ1 := HC1.out wQ kCQ
  have HSVP : Hid (∀ u, Kept wQ u → u.cell? ⟨w.heap.size, 0, none⟩ = some (.slice ao0 zs0.length cap0) ∧ u.cell? ⟨w.heap.size + 1, 0, none⟩ = some (.int .i64 ph1) ∧ u.cell? ⟨w.heap.size + 1, 1, none⟩ = some (.slice ga1 gs1.length gc1) ∧ u.cell? ⟨w.heap.size + 1, 2, none⟩ = some (.slice ba1 bs1.length bc1) ∧ u.cell? ⟨w.heap.size + 1, 3, none⟩ = some (.int .i64 at1)) := fun u hu => ⟨(XQ0.kept hu).cell 0, (XQ1.kept hu).cell 0, (XQ1.kept hu).cell 1, (XQ1.kept hu).cell 2, (XQ1.kept hu).cell 3⟩
  have TV1P : Hid _ := fun (u : World) (hu : Kept wQ u) => toSlab_ok u ao0 cap0 zs0 (HIs.out u (Kept.trans KQ hu)) hl
  have TV2P : Hid _ := fun (u : World) (hu : Kept wQ u) => toMarker_own u ga1 ba1 gc1 bc1 ph1 at1 gs1 bs1 (HIg.out u (Kept.trans KQ hu)) (HIb.out u (Kept.trans KQ hu)) hgl hbl
  go_cut [15] from 79 to 84 (fun s8 wx => ∃ (BP gcP bcP : Nat) (gaP baP : Option Addr), s8 = .pointer (some ⟨BP, 0, none⟩) ∧ Cells wx BP 29 #[.int .i64 pp, .slice gaP gg.length gcP, .slice baP bb.length bcP, .int .i64 at1] ∧ Ints wx gaP gg ∧ Ints wx baP bb ∧ Kept wQ wx)
  case first =>
    have kd : Kept wQ wQ.drew := (Below.refl _ wQ).drew
    have H0 := HSVP.out _ kd
    go_region_held3 (fun u => u.cell? ⟨w.heap.size, 0, none⟩ = some (.slice ao0 zs0.length cap0) ∧ u.cell? ⟨w.heap.size + 1, 0, none⟩ = some (.int .i64 ph1) ∧ u.cell? ⟨w.heap.size + 1, 1, none⟩ = some (.slice ga1 gs1.length gc1) ∧ u.cell? ⟨w.heap.size + 1, 2, none⟩ = some (.slice ba1 bs1.length bc1) ∧ u.cell? ⟨w.heap.size + 1, 3, none⟩ = some (.int .i64 at1))
      (first | exact HSVP.out _ (by assumption) | exact HSVP.out _ (Kept.alloc (by assumption) _) | go_keep)
      ((first
          | (go_at_call 7; refine (TV1P.out wQ.drew kd).mono ?_; rintro e wS ⟨gS, rfl, _, hRS, hKS⟩; have kS : Kept wQ wS := kd.trans hKS)
          | (go_at_call 7; refine (TV1P.out (wQ.drew.alloc (.cells #[.int .i64 0, .slice none 0 0, .slice none 0 0, .int .i64 0] 29)) (kd.alloc _)).mono ?_; rintro e wS ⟨gS, rfl, _, hRS, hKS⟩; have kS : Kept wQ wS := (Kept.alloc kd _).trans hKS; have bx : Cells wS wQ.heap.size 29 #[.int .i64 0, .slice none 0 0, .slice none 0 0, .int .i64 0] := (Cells.new wQ.drew _ _).kept hKS; have bl : wQ.heap.size ≤ wQ.heap.size := Nat.le_refl _)
          | (go_at_call 8; refine (TV2P.out wS kS).mono ?_; rintro e wB ⟨gM, gN, rfl, _, _, hRM, hRN, hKM⟩; have kB : Kept wQ wB := kS.trans hKM; have hRT := hRS.kept hKM; try (have bx := Cells.kept bx hKM))
          | (go_at_call 8; refine (TV2P.out (wS.alloc (.cells #[.int .i64 0, .slice none 0 0, .slice none 0 0, .int .i64 0] 29)) (Kept.alloc kS _)).mono ?_; rintro e wB ⟨gM, gN, rfl, _, _, hRM, hRN, hKM⟩; have kB : Kept wQ wB := (Kept.alloc kS _).trans hKM; have hRT := (hRS.kept (Kept.alloc (Below.refl _ _) _)).kept hKM; have bx : Cells wB wS.heap.size 29 #[.int .i64 0, .slice none 0 0, .slice none 0 0, .int .i64 0] := (Cells.new wS _ _).kept hKM; have bl : wQ.heap.size ≤ wS.heap.size := kS.size)
          | (go_at_call 9; refine (HIm.out wB _ _ _ _ hRT.ints hRM.intsT hRN.intsT).mono ?_; rintro e wC ⟨mC, rfl, hMC, hKC⟩; obtain ⟨gaP, baP, gcP, bcP, rfl, ho, hp, _⟩ := mkG_ints hMC; have kC : Kept wQ wC := kB.trans hKC; try (have hlt := Cells.lt bx; have bx := Cells.kept bx hKC; have d0 := bx.cell 0; have d1 := bx.cell 1; have d2 := bx.cell 2; have d3 := bx.cell 3; have f0 := bx.frozen 0; have f1 := bx.frozen 1; have f2 := bx.frozen 2; have f3 := bx.frozen 3; have q4 := bx.four (.int .i64 pp) (.slice gaP gg.length gcP) (.slice baP bb.length bcP) (.int .i64 at1); have k4 := Kept.four kC bl (.int .i64 pp) (.slice gaP gg.length gcP) (.slice baP bb.length bcP) (.int .i64 at1); have o4 := OwnG.four ho hlt (.int .i64 pp) (.slice gaP gg.length gcP) (.slice baP bb.length bcP) (.int .i64 at1); have p4 := OwnG.four (OwnG.of hp) hlt (.int .i64 pp) (.slice gaP gg.length gcP) (.slice baP bb.length bcP) (.int .i64 at1)))
          | (go_at_call 9; refine (HIm.out (wB.alloc (.cells #[.int .i64 0, .slice none 0 0, .slice none 0 0, .int .i64 0] 29)) _ _ _ _ (hRT.kept (Kept.alloc (Below.refl _ _) _)).ints (hRM.keptT (Kept.alloc (Below.refl _ _) _)).intsT (hRN.keptT (Kept.alloc (Below.refl _ _) _)).intsT).mono ?_; rintro e wC ⟨mC, rfl, hMC, hKC⟩; obtain ⟨gaP, baP, gcP, bcP, rfl, ho, hp, _⟩ := mkG_ints hMC; have kC : Kept wQ wC := (Kept.alloc kB _).trans hKC; have hlt : wB.heap.size < (wB.alloc (.cells #[.int .i64 0, .slice none 0 0, .slice none 0 0, .int .i64 0] 29)).heap.size := (by simp); have bx : Cells wC wB.heap.size 29 #[.int .i64 0, .slice none 0 0, .slice none 0 0, .int .i64 0] := (Cells.new wB _ _).kept hKC; have bl : wQ.heap.size ≤ wB.heap.size := kB.size; have d0 := bx.cell 0; have d1 := bx.cell 1; have d2 := bx.cell 2; have d3 := bx.cell 3; have f0 := bx.frozen 0; have f1 := bx.frozen 1; have f2 := bx.frozen 2; have f3 := bx.frozen 3; have q4 := bx.four (.int .i64 pp) (.slice gaP gg.length gcP) (.slice baP bb.length bcP) (.int .i64 at1); have k4 := Kept.four kC bl (.int .i64 pp) (.slice gaP gg.length gcP) (.slice baP bb.length bcP) (.int .i64 at1); have o4 := OwnG.four ho hlt (.int .i64 pp) (.slice gaP gg.length gcP) (.slice baP bb.length bcP) (.int .i64 at1); have p4 := OwnG.four (OwnG.of hp) hlt (.int .i64 pp) (.slice gaP gg.length gcP) (.slice baP bb.length bcP) (.int .i64 at1))))
    all_goals (go_wp2_with fail; go_meet; first | exact ⟨_, _, _, _, _, rfl, q4, o4.intsT, p4.intsT, k4⟩ | exact ⟨_, _, _, _, _, rfl, Cells.new _ _ _, (ho.keptT (Kept.alloc (Below.refl _ _) _)).intsT, (hp.keptT (Kept.alloc (Below.refl _ _) _)).intsT, Kept.alloc kC _⟩)
  case rest =>
  obtain ⟨BP, gcP, bcP, gaP, baP, rfl, xP, hoP, hpP, kQP⟩ := hcut
  obtain ⟨wR, hwR⟩ : ∃ x, x = wc := ⟨_, rfl⟩
  subst hwR
  have kCR : Kept wC wR := kCQ.trans kQP
  have c0 := xP.cell 0
  have c1 := xP.cell 1
  have c2 := xP.cell 2
  have c3 := xP.cell 3
  have e0 := (HCC.out _ kCR).cell 0
  have e1 := (HCC.out _ kCR).cell 1
  have e2 := (HCC.out _ kCR).cell 2
  have e3 := (HCC.out _ kCR).cell 3
  go_wp2_with fail
  refine (eqMarker_ok wR _ _ _ _ _ _ _ _ pp at1 gg bb hoP (HCg.out _ kCR) hpP (HCb.out _ kCR) (by omega) (by omega)).mono ?_
  rintro e wS ⟨rfl, hKS⟩
  clear c0 c1 c2 c3 e0 e1 e2 e3
  have kQS : Kept wQ wS := kQP.trans hKS
  have xS := HQx.out _ kQS
  have c0 := xS.cell 0
  have c1 := xS.cell 1
  have c2 := xS.cell 2
  have c3 := xS.cell 3
  go_wp2_with fail
  refine (heldMarker_ok wS pp at1 _ _ _ _ gg.length bb.length (HQ1.out _ kQS) (HQ2.out _ kQS) (by omega) (by omega)).mono ?_
  rintro e wT ⟨rfl, hKT⟩
  have KF : Kept w wT := HKC.out _ ((kCR.trans hKS).trans hKT)
  go_wp2_with fail
  go_ret
  exact ⟨rfl, KF⟩

set_option maxRecDepth 100000 in
theorem lifted (os : Os) (started : os.Started) (H : Type) (enc : TypeId × Value → H) :
    ReturnsInHanded {} Tryz.checked os 3 .any (Rows.fnExactMarkStepSpec.pre6 enc Tryz.prog Tryz.f3 Rows.fnExactMarkStepRow.domain false) (Rows.fnExactMarkStepSpec.post enc Tryz.prog Tryz.f3 false true false false) := by
  refine returnsInHanded_of_change (C := Tryz.checked) own started (by kernel_rfl) Tryz.func3
    (ChangeSpec.witness6 (enc := enc) (C := Tryz.checked) false ⟨#[], #[.agg #[.slice none 0 0], .agg #[.int .i64 0, .slice none 0 0, .slice none 0 0, .int .i64 0], .int .i64 0], []⟩ 8 (by kernel_rfl) (by kernel_rfl) (by kernel_rfl) (by kernel_rfl)) ?_
  intro W base args ds gs before hval0 hW hcnd _
  have hval : ∀ (j : Nat) t v, Tryz.f3.params[j]? = some t → args[j]? = some v → Value.okWide Tryz.prog W .any base t v := hval0
  have hW' := hW
  obtain ⟨p, q, hA0, hV, rfl, hfz, hnd⟩ := hW
  have hA : DataW.TrodAll enc Tryz.prog W 0 (fun _ => true) true Tryz.f3.params.toList args.toList ds p := hA0
  rw [Tryz.params3] at hA hval
  obtain ⟨v0, vs0, d0, ds0, p0, q0, hargs0, rfl, rfl, h0, r0⟩ := trodAll_cons hA
  obtain ⟨v1, vs1, d1, ds1, p1, q1, hargs1, rfl, rfl, h1, r1⟩ := trodAll_cons r0
  obtain ⟨v2, vs2, d2, ds2, p2, q2, hargs2, rfl, rfl, h2, r2⟩ := trodAll_cons r1
  obtain ⟨rfl, rfl, rfl⟩ := trodAll_nil r2
  obtain rfl : args = #[v0, v1, v2] := by cases args; simp_all
  obtain ⟨rfl, rfl⟩ := trodVars_none hV
  clear hA0 hval0
  simp only [List.append_nil] at hW'
  have hlt0 : ∀ x ∈ p0, x.block < W.heap.size := fun x hx => by simpa using hW'.lt x (by simp [hx])
  have hlt1 : ∀ x ∈ p1, x.block < W.heap.size := fun x hx => by simpa using hW'.lt x (by simp [hx])
  have hlt2 : ∀ x ∈ p2, x.block < W.heap.size := fun x hx => by simpa using hW'.lt x (by simp [hx])
  obtain ⟨ao0, cap0, zs0, rfl, hc0, hm0, hI0⟩ := open_slab (hval 0 24 v0 rfl rfl) h0
  obtain ⟨ph1, at1, ga1, ba1, gc1, bc1, gs1, bs1, rfl, hg1, hb1, wp1, wa1⟩ := open_marker (hval 1 26 v1 rfl rfl) h1
  obtain ⟨a2, rfl, ed2, ep2, w2⟩ := open_int Tryz.underlying3 (hval 2 3 v2 rfl rfl) h2
  refine (walk W ao0 cap0 zs0 hc0 hm0 hI0 ph1 at1 ga1 ba1 gc1 bc1 gs1 bs1 hg1 hb1 wp1 wa1 a2 w2).mono fun e W' ⟨he, hk⟩ => ?_
  subst he
  refine ⟨_, rfl, _, _, _, [], p0 ++ (p1 ++ (p2 ++ [])), [], hW', ?_, ?_, rfl, hk.frame _, fun h => by cases h⟩
  · exact trodAll_cons_mk (shut_bool Tryz.underlying4 _) trodAll_mk0
  · exact (trodAll_cons_mk (Below.trod laid (by kernel_rfl) (of_decide_eq_true (by kernel_rfl)) h0 hk hlt0) (trodAll_cons_mk (Below.trod laid (by kernel_rfl) (of_decide_eq_true (by kernel_rfl)) h1 hk hlt1) (trodAll_cons_mk (Below.trod laid (by kernel_rfl) (of_decide_eq_true (by kernel_rfl)) h2 hk hlt2) trodAll_mk0)))

theorem over : Rows.fnExactMarkStepRow.holds Tryz.pinned (OpenSpec.ofChange Rows.fnExactMarkStepSpec) :=
  OpenClaim.holds_of_wide 3 Tryz.f3 rfl rfl rfl rfl rfl rfl rfl ⟨rfl, rfl, rfl, rfl, rfl⟩ rfl rfl rfl rfl rfl (by kernel_rfl) Tryz.func3 (by kernel_rfl)
    (of_decide_eq_true (by kernel_rfl)) (by unfold Func.isWrapper; first | (rw [if_pos (by decide +kernel)]; kernel_rfl) | (rw [if_neg (by decide +kernel)]; exact ⟨rfl, rfl⟩))
    (fun os started H enc _ => lifted os started H enc)

theorem proved : Rows.FnExactMarkStepSaid :=
  over
#print axioms proved
end Go.Proofs.YtjgafhmgmddgdaaGreat.fnExactMarkStep
