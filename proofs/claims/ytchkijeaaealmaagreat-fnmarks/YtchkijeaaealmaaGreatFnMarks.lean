/-
  The law FnMarks is proved: for every slice of bytes, the marker that is drawn of it goes on as its model has it, and is right where its model says so; where it is right and marks, and no black block leads to one that was not met, that stays so step by step, and it comes to the same as at once: to a right marker that sweeps; all else is left as it was; nothing that was there is written.
-/
import Derived.Test.YtchkijeaaealmaaGreatRows
import Derived.WalkKit
import Derived.ProofKit
import Derived.OpenShut
import Derived.ShutString
import Derived.ChangeOld
import Derived.Below
import Derived.Deep.RegionWith
import Derived.Deep.CutRange
import Derived.Test.YtchkijeaaealmaaGreatGrpDm
import Derived.Test.YtchkijeaaealmaaGreatGrpSm
import Derived.Test.YtchkijeaaealmaaGreatGrpMr
import Derived.Test.YtchkijeaaealmaaGreatGrpSt
namespace Go.Proofs.YtchkijeaaealmaaGreat.fnMarks
open Go.ChangeShapes Go.WideShapes Go.ChangeAt Go.RowKit
open Go.ChangeMaps (open_string shut_string)
set_option linter.unusedVariables false

theorem own : ownKnob Tryz.prog.godebug = none := by kernel_rfl
theorem laidOut : laidOutB Tryz.prog = true := by kernel_rfl

/-- WHAT THE WALK IS TOLD OF A SLICE OF INTEGERS THAT CAME IN: it is nil; or it leads to a row of 'cap' cells, the numbers 'zs' (the first 'len' are its elements, the rest its spare room), each fitting its kind. -/
def IsRow (k : IntKind) (w : World) (a : Option Addr) (len cap : Nat) (zs : List Int) : Prop :=
  (a = none ∧ len = 0 ∧ cap = 0 ∧ zs = []) ∨
  ∃ x, a = some x ∧ len ≤ cap ∧ cap ≤ maxLen ∧ zs.length = cap ∧ (∀ i, i < zs.length → w.cell? (x.add i) = some (.int k (zs.getD i 0))) ∧ ∀ n ∈ zs, (Lit.int k n).wf = true

theorem stepC_not {zs gs bs : List Int} {ph at' n : Int} (h : ¬ (markR zs ph gs bs at' = true ∧ ph = 1)) : stepC zs ph gs bs at' n = (ph, gs, bs) := if_neg h
theorem marks_all {zs gs bs : List Int} (n : Int) (h : triR zs 1 gs bs 0 = true) : ∃ all : List Int, stepC zs 1 gs bs 0 2000 = (2, [], all) ∧ markR zs 2 [] all 0 = true ∧ triR zs (stepC zs 1 gs bs 0 n).1 (stepC zs 1 gs bs 0 n).2.1 (stepC zs 1 gs bs 0 n).2.2 0 = true ∧ stepC zs (stepC zs 1 gs bs 0 n).1 (stepC zs 1 gs bs 0 n).2.1 (stepC zs 1 gs bs 0 n).2.2 0 2000 = (2, [], all) := by
  have hm : markR zs 1 gs bs 0 = true := by
    have h' := h
    unfold triR at h'
    rw [Bool.and_eq_true] at h'
    exact h'.1
  obtain ⟨all, h1, h2, h3, h4⟩ := marks_end n.toNat h
  have e : stepC zs 1 gs bs 0 n = (stepPh (stepL zs n.toNat gs bs).1, stepL zs n.toNat gs bs) := if_pos ⟨hm, rfl⟩
  refine ⟨all, h1, h2, ?_⟩
  rw [e]
  by_cases h0 : (stepL zs n.toNat gs bs).1 = []
  · have e2 : stepL zs n.toNat gs bs = ([], all) := Prod.ext h0 (h3 h0)
    rw [e2]
    refine ⟨?_, stepC_not (by simp [stepPh])⟩
    unfold triR
    simp [stepPh, h2]
  · have hp : stepPh (stepL zs n.toNat gs bs).1 = 1 := if_neg h0
    simp only [hp]
    exact h4 h0
theorem marks_zero {zs gs bs : List Int} {at' : Int} (h : markR zs 1 gs bs at' = true) : at' = 0 := (mark_one h).2.1
set_option maxRecDepth 100000 in
set_option maxHeartbeats 64000000 in

theorem walk (a0 : Option Addr) (len0 cap0 : Nat) (z0 : List Int) (w : World) (w0 : IsRow .u8 w a0 len0 cap0 z0) :
    Calls Tryz.prog 3 #[.slice a0 len0 cap0] w fun e w' => e = .returned (.bool true) ∧ Below w.heap.size w w' := by
  have hs := src_of w0
  clear w0
  have hlen := hs.1
  by_cases hbig : (1048576 : Int) < (len0 : Int)
  · go_enter Tryz.func3, Tryz.ntmps3
    go_wp2_with (first | (go_at_call 5; go_in))
    go_ret
    exact ⟨rfl, Below.refl _ _⟩
  · have hD := DrawMarkStep_ok a0 len0 cap0 _ _ hs
    go_enter Tryz.func3, Tryz.ntmps3
    go_wp2_with (first | (go_at_call 5; go_in))
    refine hD.mono ?_
    rintro e w1 ⟨v, zs, ph, at', ga, ba, gc, bc, gs, bs, n, rfl, ⟨hO, hl⟩, ⟨hG, hgl⟩, ⟨hN, hbl⟩, ⟨hph, hat⟩, hn, hK1⟩
    obtain ⟨ao, cp, rfl, hI, _, hcp⟩ := hO
    have hl' : zs.length ≤ 1048576 := by omega
    have hgn : ga = none → gc = 0 := fun e => by subst e; exact slice_none hG
    have hbn : ba = none → bc = 0 := fun e => by subst e; exact slice_none hN
    have hM1 := MkI.of hG hN (by omega) (by omega)
    have ka : Kept w1 ((w1.alloc (.cells #[.slice ao zs.length cp] 26)).alloc (.cells #[.int .i64 ph, .slice ga gs.length gc, .slice ba bs.length bc, .int .i64 at'] 28)) := (Kept.alloc (Below.refl _ _) _).alloc _
    have x3 := (Cells.new w1 26 #[.slice ao zs.length cp]).alloc (.cells #[.int .i64 ph, .slice ga gs.length gc, .slice ba bs.length bc, .int .i64 at'] 28)
    have x4 := Cells.new (w1.alloc (.cells #[.slice ao zs.length cp] 26)) 28 #[.int .i64 ph, .slice ga gs.length gc, .slice ba bs.length bc, .int .i64 at']
    simp only [World.size_alloc] at x4
    have hIa := hI.kept ka
    have hMa := hM1.kept ka
    have hGa := hG.kept (row := none) ka.grown (fun _ e => by cases e)
    have hNa := hN.kept (row := none) ka.grown (fun _ e => by cases e)
    have hKa := hK1.trans ka
    have hStep := impl_MarkStep_ok _ ao ga ba cp gc bc zs gs bs ph at' n hIa hl' hMa hgn hbn (by omega)
    have hsl := stepC_len (zs := zs) (gs := gs) (bs := bs) (ph := ph) (at' := at') (n := n) (L := 201) (by omega) hgl hbl
    have hSpS := fun (u : World) (hu : Ints u ao zs) (hg : OwnL u w.heap.size (.slice ga gs.length gc) gs) (hb : OwnL u w.heap.size (.slice ba bs.length bc) bs) => spec_MarkStep_ok u w.heap.size w.heap.size ao ga ba cp gc bc zs gs bs ph at' n hu hl' hg hb (by omega) (by omega) (by omega)
    have hImk := fun (u : World) (hu : Ints u ao zs) (hm : MkI u ga ba gc bc gs bs) => impl_MarkerOk_ok u ao ga ba cp gc bc zs gs bs ph at' hu hl' hm hgn
    have hSmk := fun (u : World) (hu : Ints u ao zs) (hm : MkI u ga ba gc bc gs bs) => spec_MarkerOk_ok u ao ga ba cp gc bc zs gs bs ph at' hu hl' hm
    have hStr := fun (u : World) (hu : Ints u ao zs) (hm : MkI u ga ba gc bc gs bs) => spec_TriOk_ok u ao ga ba cp gc bc zs gs bs ph at' hu hl' hm
    have hAll := fun (u : World) (ga ba : Option Addr) (gc bc : Nat) (ph at' : Int) (gs bs : List Int) (hu : Ints u ao zs) (hm : MkI u ga ba gc bc gs bs) (hgn : ga = none → gc = 0) (hbn : ba = none → bc = 0) => impl_MarkStep_ok u ao ga ba cp gc bc zs gs bs ph at' 2000 hu hl' hm hgn hbn (by omega)
    have hTri := fun (u : World) (ga ba : Option Addr) (gc bc : Nat) (ph at' : Int) (gs bs : List Int) (hu : Ints u ao zs) (hm : MkI u ga ba gc bc gs bs) (hgn : ga = none → gc = 0) => impl_TriOk_ok u ao ga ba cp gc bc zs gs bs ph at' hu hl' hm hgn
    have hMko := fun (u : World) (ga ba : Option Addr) (gc bc : Nat) (ph at' : Int) (gs bs : List Int) (hu : Ints u ao zs) (hm : MkI u ga ba gc bc gs bs) (hgn : ga = none → gc = 0) => impl_MarkerOk_ok u ao ga ba cp gc bc zs gs bs ph at' hu hl' hm hgn
    simp only [mrkV] at hStep hImk hAll hTri hMko
    obtain ⟨pa, hpa⟩ : ∃ x, (stepC zs ph gs bs at' n).1 = x := ⟨_, rfl⟩
    obtain ⟨g2, hg2⟩ : ∃ x, (stepC zs ph gs bs at' n).2.1 = x := ⟨_, rfl⟩
    obtain ⟨b2, hb2⟩ : ∃ x, (stepC zs ph gs bs at' n).2.2 = x := ⟨_, rfl⟩
    obtain ⟨mk, hmk⟩ : ∃ x, markR zs ph gs bs at' = x := ⟨_, rfl⟩
    obtain ⟨tr, htr⟩ : ∃ x, triR zs ph gs bs at' = x := ⟨_, rfl⟩
    rw [hpa, hg2, hb2] at hStep
    simp only [hpa, hg2, hb2] at hSpS
    rw [hg2, hb2] at hsl
    simp only [hmk] at hImk hSmk
    simp only [htr] at hStr
    have HC : Hid ((¬ (mk = true ∧ ph = 1) → pa = ph ∧ g2 = gs ∧ b2 = bs) ∧ (mk = true → ph = 1 → at' = 0) ∧ (tr = true → ph = 1 → at' = 0 → ∃ all : List Int, stepC zs ph gs bs at' 2000 = (2, [], all) ∧ markR zs 2 [] all at' = true ∧ triR zs pa g2 b2 at' = true ∧ stepC zs pa g2 b2 at' 2000 = (2, [], all))) := by
      refine ⟨fun h => ?_, fun h1 h2 => ?_, fun h1 h2 h3 => ?_⟩
      · rw [← hpa, ← hg2, ← hb2, stepC_not (by rw [hmk]; exact h)]
        exact ⟨rfl, rfl, rfl⟩
      · subst h2
        exact marks_zero (by rw [hmk]; exact h1)
      · subst h2
        subst h3
        rw [← hpa, ← hg2, ← hb2]
        exact marks_all n (by rw [htr]; exact h1)
    clear hpa hg2 hb2 hmk htr hD ka hI hM1 hG hN hK1
    have HSpS : Hid _ := hSpS
    have HImk : Hid _ := hImk
    have HSmk : Hid _ := hSmk
    have HStr : Hid _ := hStr
    have HAll : Hid _ := hAll
    have HTri : Hid _ := hTri
    have HMko : Hid _ := hMko
    clear hSpS hImk hSmk hStr hAll hTri hMko
    have e3 := x3.cell 0
    have e40 := x4.cell 0
    have e41 := x4.cell 1
    have e42 := x4.cell 2
    have e43 := x4.cell 3
    go_wp2_with fail
    refine hStep.mono ?_
    rintro e w2 ⟨m, rfl, hM, hk2⟩
    clear e3 e40 e41 e42 e43
    obtain ⟨xa, ya, xc, yc, rfl, ix, iy, hxn, hyn, hxl, hyl⟩ := mkG_two hM
    have kb : Kept w2 (w2.alloc (.cells #[.int .i64 pa, .slice xa g2.length xc, .slice ya b2.length yc, .int .i64 at'] 28)) := Kept.alloc (Below.refl _ _) _
    have x6 := Cells.new w2 28 #[.int .i64 pa, .slice xa g2.length xc, .slice ya b2.length yc, .int .i64 at']
    have y3 := (x3.kept hk2).kept kb
    have y4 := (x4.kept hk2).kept kb
    have hI3 := (hIa.kept hk2).kept kb
    have hM3 := (hMa.kept hk2).kept kb
    have hG3 := (hGa.kept (row := none) hk2.grown (fun _ e => by cases e)).kept (row := none) kb.grown (fun _ e => by cases e)
    have hN3 := (hNa.kept (row := none) hk2.grown (fun _ e => by cases e)).kept (row := none) kb.grown (fun _ e => by cases e)
    have hX3 : MkI _ xa ya xc yc g2 b2 := MkI.kept ⟨ix, iy, by omega, by omega, hxl, hyl⟩ kb
    have K3 := (hKa.trans hk2).trans kb
    clear hStep x3 x4 hIa hMa hGa hNa hKa hk2 hM ix iy kb
    go_upto_region 5 with (fail)
    obtain ⟨W, hW⟩ : ∃ W, w2.alloc (.cells #[.int .i64 pa, .slice xa g2.length xc, .slice ya b2.length yc, .int .i64 at'] 28) = W := ⟨_, rfl⟩
    obtain ⟨B3, hB3⟩ : ∃ B, w1.heap.size = B := ⟨_, rfl⟩
    obtain ⟨B6, hB6⟩ : ∃ B, w2.heap.size = B := ⟨_, rfl⟩
    rw [hW] at x6 y3 y4 hI3 hM3 hG3 hN3 hX3 K3
    rw [hB3] at y3 y4
    rw [hB6] at x6
    simp only [hW, hB3, hB6]
    clear hW hB3 hB6
    have HS : Hid (∀ u, Kept W u → (u.cell? ⟨B3, 0, none⟩ = some (.slice ao zs.length cp) ∧ u.cell? ⟨B3 + 1, 0, none⟩ = some (.int .i64 ph) ∧ u.cell? ⟨B3 + 1, 1, none⟩ = some (.slice ga gs.length gc) ∧ u.cell? ⟨B3 + 1, 2, none⟩ = some (.slice ba bs.length bc) ∧ u.cell? ⟨B3 + 1, 3, none⟩ = some (.int .i64 at')) ∧ u.cell? ⟨B6, 0, none⟩ = some (.int .i64 pa) ∧ u.cell? ⟨B6, 1, none⟩ = some (.slice xa g2.length xc) ∧ u.cell? ⟨B6, 2, none⟩ = some (.slice ya b2.length yc) ∧ u.cell? ⟨B6, 3, none⟩ = some (.int .i64 at')) := fun u hu => ⟨⟨(y3.kept hu).cell 0, (y4.kept hu).cell 0, (y4.kept hu).cell 1, (y4.kept hu).cell 2, (y4.kept hu).cell 3⟩, (x6.kept hu).cell 0, (x6.kept hu).cell 1, (x6.kept hu).cell 2, (x6.kept hu).cell 3⟩
    have HI : Hid (∀ u, Kept W u → Ints u ao zs ∧ MkI u ga ba gc bc gs bs ∧ MkI u xa ya xc yc g2 b2 ∧ OwnL u w.heap.size (.slice ga gs.length gc) gs ∧ OwnL u w.heap.size (.slice ba bs.length bc) bs) := fun u hu => ⟨hI3.kept hu, hM3.kept hu, hX3.kept hu, hG3.kept (row := none) hu.grown (fun _ e => by cases e), hN3.kept (row := none) hu.grown (fun _ e => by cases e)⟩
    clear x6 y3 y4 hI3 hM3 hG3 hN3 hX3
    go_cut [37] from 22 to 36 (fun s37 wx => s37 = .bool false ∧ Kept W wx)
    case first =>
      have kd : Kept W W.drew := (Below.refl _ W).drew
      have H0 := HS.out _ kd
      have hne : (mk != mk) = false := by simp
      go_region_held3 (fun u => (u.cell? ⟨B3, 0, none⟩ = some (.slice ao zs.length cp) ∧ u.cell? ⟨B3 + 1, 0, none⟩ = some (.int .i64 ph) ∧ u.cell? ⟨B3 + 1, 1, none⟩ = some (.slice ga gs.length gc) ∧ u.cell? ⟨B3 + 1, 2, none⟩ = some (.slice ba bs.length bc) ∧ u.cell? ⟨B3 + 1, 3, none⟩ = some (.int .i64 at')) ∧ u.cell? ⟨B6, 0, none⟩ = some (.int .i64 pa) ∧ u.cell? ⟨B6, 1, none⟩ = some (.slice xa g2.length xc) ∧ u.cell? ⟨B6, 2, none⟩ = some (.slice ya b2.length yc) ∧ u.cell? ⟨B6, 3, none⟩ = some (.int .i64 at'))
        (first | exact HS.out _ (by assumption) | go_keep)
        ((first
            | (go_at_call 9; refine (HSpS.out _ (HI.out _ kd).1 (HI.out _ kd).2.2.2.1 (HI.out _ kd).2.2.2.2).mono ?_; rintro e w3 ⟨m3, rfl, hM3, hk3⟩; obtain ⟨ga3, ba3, gc3, bc3, rfl, og3, ob3, _, _, _⟩ := mkO_two hM3; have kq3 : Kept W w3 := kd.trans hk3)
            | (go_at_call 8; refine (sameMarker_yes _ xa ya ga3 ba3 xc yc gc3 bc3 pa at' g2 b2 (HI.out _ kq3).2.2.1.g (by obtain ⟨_, _, e', h'⟩ := og3.ints; cases e'; exact h') (HI.out _ kq3).2.2.1.b (by obtain ⟨_, _, e', h'⟩ := ob3.ints; cases e'; exact h') (by omega) (by omega)).mono ?_; rintro e w4 ⟨rfl, hk4⟩; have kq4 : Kept W w4 := kq3.trans hk4)
            | (go_at_call 10; refine (HImk.out _ (HI.out _ kq4).1 (HI.out _ kq4).2.1).mono ?_; rintro e w5 ⟨rfl, hk5⟩; have kq5 : Kept W w5 := kq4.trans hk5)
            | (go_at_call 11; refine (HSmk.out _ (HI.out _ kq5).1 (HI.out _ kq5).2.1).mono ?_; rintro e w6 ⟨rfl, hk6⟩; have kq6 : Kept W w6 := kq5.trans hk6)))
      all_goals (go_wp2_with fail; go_meet; exact ⟨rfl, kq6⟩)
    case rest =>
    obtain ⟨rfl, kc⟩ := hcut
    obtain ⟨w7, hw7⟩ : ∃ x, x = wc := ⟨_, rfl⟩
    subst hw7
    have K7 := K3.trans kc
    have hD2 := DrawTriOk_ok a0 len0 cap0 _ _ (hs.below K7)
    go_wp2_with fail
    refine hD2.mono ?_
    rintro e w8 ⟨v8, z8, ph8, at8, ga8, ba8, gc8, bc8, gs8, bs8, rfl, ⟨hO8, hl8⟩, ⟨hG8, hgl8⟩, ⟨hN8, hbl8⟩, ⟨hph8, hat8⟩, hk8⟩
    obtain ⟨ao8, cp8, rfl, hI8, _, _⟩ := hO8
    have hgn8 : ga8 = none → gc8 = 0 := fun e => by subst e; exact slice_none hG8
    have hM8 := MkI.of hG8 hN8 (by omega) (by omega)
    have kb : Kept w8 ((w8.alloc (.cells #[.slice ao8 z8.length cp8] 26)).alloc (.cells #[.int .i64 ph8, .slice ga8 gs8.length gc8, .slice ba8 bs8.length bc8, .int .i64 at8] 28)) := (Kept.alloc (Below.refl _ _) _).alloc _
    have t7 := (Cells.new w8 26 #[.slice ao8 z8.length cp8]).alloc (.cells #[.int .i64 ph8, .slice ga8 gs8.length gc8, .slice ba8 bs8.length bc8, .int .i64 at8] 28)
    have t8 := Cells.new (w8.alloc (.cells #[.slice ao8 z8.length cp8] 26)) 28 #[.int .i64 ph8, .slice ga8 gs8.length gc8, .slice ba8 bs8.length bc8, .int .i64 at8]
    simp only [World.size_alloc] at t8
    have hI9 := hI8.kept kb
    have hM9 := hM8.kept kb
    have k9 := (kc.trans hk8).trans kb
    have HT1 := fun (u : World) (hu : Ints u ao8 z8) (hm : MkI u ga8 ba8 gc8 bc8 gs8 bs8) => impl_TriOk_ok u ao8 ga8 ba8 cp8 gc8 bc8 z8 gs8 bs8 ph8 at8 hu (by omega) hm hgn8
    have HT2 := fun (u : World) (hu : Ints u ao8 z8) (hm : MkI u ga8 ba8 gc8 bc8 gs8 bs8) => spec_TriOk_ok u ao8 ga8 ba8 cp8 gc8 bc8 z8 gs8 bs8 ph8 at8 hu (by omega) hm
    simp only [mrkV] at HT1
    obtain ⟨t, ht⟩ : ∃ x, triR z8 ph8 gs8 bs8 at8 = x := ⟨_, rfl⟩
    simp only [ht] at HT1 HT2
    have HHT1 : Hid _ := HT1
    have HHT2 : Hid _ := HT2
    clear hD2 hI8 hM8 hG8 hN8 hk8 kb ht HT1 HT2 kc K7
    go_upto_region 8 with (fail)
    obtain ⟨W9, hW9⟩ : ∃ W, (w8.alloc (.cells #[.slice ao8 z8.length cp8] 26)).alloc (.cells #[.int .i64 ph8, .slice ga8 gs8.length gc8, .slice ba8 bs8.length bc8, .int .i64 at8] 28) = W := ⟨_, rfl⟩
    obtain ⟨B7, hB7⟩ : ∃ B, w8.heap.size = B := ⟨_, rfl⟩
    rw [hW9] at t7 t8 hI9 hM9 k9
    rw [hB7] at t7 t8
    simp only [hW9, hB7]
    clear hW9 hB7
    go_cut [49] from 43 to 48 (fun s49 wx => s49 = .bool false ∧ Kept W9 wx)
    case first =>
      have kd : Kept W9 W9.drew := (Below.refl _ W9).drew
      have HS9 : Hid (∀ u, Kept W9 u → u.cell? ⟨B7, 0, none⟩ = some (.slice ao8 z8.length cp8) ∧ u.cell? ⟨B7 + 1, 0, none⟩ = some (.int .i64 ph8) ∧ u.cell? ⟨B7 + 1, 1, none⟩ = some (.slice ga8 gs8.length gc8) ∧ u.cell? ⟨B7 + 1, 2, none⟩ = some (.slice ba8 bs8.length bc8) ∧ u.cell? ⟨B7 + 1, 3, none⟩ = some (.int .i64 at8)) := fun u hu => ⟨(t7.kept hu).cell 0, (t8.kept hu).cell 0, (t8.kept hu).cell 1, (t8.kept hu).cell 2, (t8.kept hu).cell 3⟩
      have H0 := HS9.out _ kd
      have hne : (t != t) = false := by simp
      go_region_held3 (fun u => u.cell? ⟨B7, 0, none⟩ = some (.slice ao8 z8.length cp8) ∧ u.cell? ⟨B7 + 1, 0, none⟩ = some (.int .i64 ph8) ∧ u.cell? ⟨B7 + 1, 1, none⟩ = some (.slice ga8 gs8.length gc8) ∧ u.cell? ⟨B7 + 1, 2, none⟩ = some (.slice ba8 bs8.length bc8) ∧ u.cell? ⟨B7 + 1, 3, none⟩ = some (.int .i64 at8))
        (first | exact HS9.out _ (by assumption) | go_keep)
        ((first
            | (go_at_call 13; refine (HHT1.out _ (hI9.kept kd) (hM9.kept kd)).mono ?_; rintro e w3 ⟨rfl, hk3⟩; have kq3 : Kept W9 w3 := kd.trans hk3)
            | (go_at_call 14; refine (HHT2.out _ (hI9.kept kq3) (hM9.kept kq3)).mono ?_; rintro e w4 ⟨rfl, hk4⟩; have kq4 : Kept W9 w4 := kq3.trans hk4)))
      all_goals (go_wp2_with fail; go_meet; exact ⟨rfl, kq4⟩)
    case rest =>
    obtain ⟨rfl, kc⟩ := hcut
    obtain ⟨w10, hw10⟩ : ∃ x, x = wc := ⟨_, rfl⟩
    subst hw10
    have kW := k9.trans kc
    clear t7 t8 hI9 hM9 k9 kc HHT1 HHT2 HSpS HImk hgl8 hbl8 hph8 hat8 hgn8 hl8
    obtain ⟨⟨h3c, h40, h41, h42, h43⟩, h60, h61, h62, h63⟩ := HS.out _ kW
    have hMk := HSmk.out _ (HI.out _ kW).1 (HI.out _ kW).2.1
    cases mk with
    | false =>
      obtain ⟨rfl, rfl, rfl⟩ := HC.out.1 (by simp)
      go_wp2_with (first | (go_at_call 11; refine hMk.mono ?_; rintro e w11 ⟨rfl, hk11⟩; obtain ⟨⟨d3c, d40, d41, d42, d43⟩, d60, d61, d62, d63⟩ := HS.out _ (kW.trans hk11)) | (go_at_call 8; refine (sameMarker_yes _ xa ya ga ba xc yc gc bc pa at' g2 b2 (HI.out _ (kW.trans hk11)).2.2.1.g (HI.out _ (kW.trans hk11)).2.1.g (HI.out _ (kW.trans hk11)).2.2.1.b (HI.out _ (kW.trans hk11)).2.1.b (by omega) (by omega)).mono ?_; rintro e w12 ⟨rfl, hk12⟩))
      go_ret
      exact ⟨rfl, ((K3.trans kW).trans hk11).trans hk12⟩
    | true =>
      by_cases hp1 : ph = 1
      · have hat0 := HC.out.2.1 rfl hp1
        have HC3 : Hid _ := HC.out.2.2
        subst hp1
        subst hat0
        clear HC
        go_wp2_with (first | (go_at_call 11; refine hMk.mono ?_; rintro e w11 ⟨rfl, hk11⟩; obtain ⟨⟨d3c, d40, d41, d42, d43⟩, d60, d61, d62, d63⟩ := HS.out _ (kW.trans hk11)))
        have k11 := kW.trans hk11
        have hTr := HStr.out _ (HI.out _ k11).1 (HI.out _ k11).2.1
        cases tr with
        | false =>
          refine hTr.mono ?_
          rintro e w12 ⟨rfl, hk12⟩
          go_wp2
          go_ret
          exact ⟨rfl, (K3.trans k11).trans hk12⟩
        | true =>
          obtain ⟨all, hA1, hA2, hA3, hA4⟩ := HC3.out (by first | rfl | trivial) (by first | rfl | trivial) (by first | rfl | trivial)
          have HA : Hid _ := And.intro hA1 (And.intro hA2 (And.intro hA3 hA4))
          have hall : all.length ≤ 201 := by
            have := (stepC_len (zs := zs) (gs := gs) (bs := bs) (ph := 1) (at' := 0) (n := 2000) (L := 201) (by omega) hgl hbl).2
            rw [hA1] at this
            exact this
          clear hA1 hA2 hA3 hA4 HC3 h3c h40 h41 h42 h43 h60 h61 h62 h63 d3c d40 d41 d42 d43 d60 d61 d62 d63 hMk
          refine hTr.mono ?_
          rintro e w12 ⟨rfl, hk12⟩
          have k12 := k11.trans hk12
          obtain ⟨⟨d3c, d40, d41, d42, d43⟩, d60, d61, d62, d63⟩ := HS.out _ k12
          have hSt := HAll.out _ ga ba gc bc 1 0 gs bs (HI.out _ k12).1 (HI.out _ k12).2.1 hgn hbn
          rw [HA.out.1] at hSt
          go_wp2_with fail
          refine hSt.mono ?_
          rintro e w13 ⟨m13, rfl, hM13, hk13⟩
          obtain ⟨pa3, pb3, pc3, pd3, rfl, ip, iq, hpn, hqn, hpl, hql⟩ := mkG_two hM13
          obtain ⟨nl, hnl⟩ : ∃ nl : List Int, [] = nl := ⟨_, rfl⟩
          have hnl0 : nl.length ≤ 0 := by rw [← hnl]; simp
          rw [hnl] at HA ip hpl
          rw [show (([] : List Int).length) = nl.length by rw [hnl]]
          have kb : Kept w13 (w13.alloc (.cells #[.int .i64 2, .slice pa3 nl.length pc3, .slice pb3 all.length pd3, .int .i64 0] 28)) := Kept.alloc (Below.refl _ _) _
          have x9 := Cells.new w13 28 #[.int .i64 2, .slice pa3 nl.length pc3, .slice pb3 all.length pd3, .int .i64 0]
          have hP9 : MkI _ pa3 pb3 pc3 pd3 nl all := MkI.kept ⟨ip, iq, by omega, by omega, hpl, hql⟩ kb
          have k14 := (k12.trans hk13).trans kb
          clear hnl hM13 ip iq hSt d3c d40 d41 d42 d43 d60 d61 d62 d63 hTr hk13 hk12 hk11 k11 k12
          go_upto_region 15 with (fail)
          obtain ⟨WE, hWE⟩ : ∃ W, w13.alloc (.cells #[.int .i64 2, .slice pa3 nl.length pc3, .slice pb3 all.length pd3, .int .i64 0] 28) = W := ⟨_, rfl⟩
          obtain ⟨B9, hB9⟩ : ∃ B, w13.heap.size = B := ⟨_, rfl⟩
          rw [hWE] at x9 hP9 k14
          rw [hB9] at x9
          simp only [hWE, hB9]
          clear hWE hB9 kb
          have HX : Hid (∀ u, Kept WE u → Kept W u ∧ ((u.cell? ⟨B3, 0, none⟩ = some (.slice ao zs.length cp) ∧ u.cell? ⟨B6, 0, none⟩ = some (.int .i64 pa) ∧ u.cell? ⟨B6, 1, none⟩ = some (.slice xa g2.length xc) ∧ u.cell? ⟨B6, 2, none⟩ = some (.slice ya b2.length yc) ∧ u.cell? ⟨B6, 3, none⟩ = some (.int .i64 0)) ∧ u.cell? ⟨B9, 0, none⟩ = some (.int .i64 2) ∧ u.cell? ⟨B9, 1, none⟩ = some (.slice pa3 nl.length pc3) ∧ u.cell? ⟨B9, 2, none⟩ = some (.slice pb3 all.length pd3) ∧ u.cell? ⟨B9, 3, none⟩ = some (.int .i64 0)) ∧ MkI u pa3 pb3 pc3 pd3 nl all) := fun u hu => by
            have hs' := HS.out _ (k14.trans hu)
            exact ⟨k14.trans hu, ⟨⟨hs'.1.1, hs'.2.1, hs'.2.2.1, hs'.2.2.2.1, hs'.2.2.2.2⟩, (x9.kept hu).cell 0, (x9.kept hu).cell 1, (x9.kept hu).cell 2, (x9.kept hu).cell 3⟩, hP9.kept hu⟩
          have HT3 : Hid (∀ u, Kept WE u → Calls Tryz.prog 13 #[.agg #[.slice ao zs.length cp], .agg #[.int .i64 pa, .slice xa g2.length xc, .slice ya b2.length yc, .int .i64 0]] u fun e w' => e = .returned (.bool true) ∧ Kept u w') := fun u hu => by
            have := HTri.out u xa ya xc yc pa 0 g2 b2 (HI.out u (HX.out u hu).1).1 (HI.out u (HX.out u hu).1).2.2.1 hxn
            rwa [HA.out.2.2.1] at this
          have HM3 : Hid (∀ u, Kept WE u → Calls Tryz.prog 7 #[.agg #[.slice ao zs.length cp], .agg #[.int .i64 pa, .slice xa g2.length xc, .slice ya b2.length yc, .int .i64 0], .int .i64 2000] u fun e w' => ∃ m, e = .returned m ∧ MkG w' u.heap.size m 2 nl all 0 ∧ Kept u w') := fun u hu => by
            have := HAll.out u xa ya xc yc pa 0 g2 b2 (HI.out u (HX.out u hu).1).1 (HI.out u (HX.out u hu).1).2.2.1 hxn hyn
            rwa [HA.out.2.2.2] at this
          have HK3 : Hid (∀ u, Kept WE u → Calls Tryz.prog 10 #[.agg #[.slice ao zs.length cp], .agg #[.int .i64 2, .slice pa3 nl.length pc3, .slice pb3 all.length pd3, .int .i64 0]] u fun e w' => e = .returned (.bool true) ∧ Kept u w') := fun u hu => by
            have := HMko.out u pa3 pb3 pc3 pd3 2 0 nl all (HI.out u (HX.out u hu).1).1 (HX.out u hu).2.2 hpn
            rwa [HA.out.2.1] at this
          have kd : Kept WE WE.drew := (Below.refl _ WE).drew
          have H0 := (HX.out _ kd).2.1
          clear HTri HAll HMko HStr HSmk HA x9 hP9
          go_region_held3 (fun u => (u.cell? ⟨B3, 0, none⟩ = some (.slice ao zs.length cp) ∧ u.cell? ⟨B6, 0, none⟩ = some (.int .i64 pa) ∧ u.cell? ⟨B6, 1, none⟩ = some (.slice xa g2.length xc) ∧ u.cell? ⟨B6, 2, none⟩ = some (.slice ya b2.length yc) ∧ u.cell? ⟨B6, 3, none⟩ = some (.int .i64 0)) ∧ u.cell? ⟨B9, 0, none⟩ = some (.int .i64 2) ∧ u.cell? ⟨B9, 1, none⟩ = some (.slice pa3 nl.length pc3) ∧ u.cell? ⟨B9, 2, none⟩ = some (.slice pb3 all.length pd3) ∧ u.cell? ⟨B9, 3, none⟩ = some (.int .i64 0))
            (first | exact (HX.out _ (by assumption)).2.1 | go_keep)
            ((first
                | (go_at_call 13; refine (HT3.out _ kd).mono ?_; rintro e w3 ⟨rfl, hk3⟩; have kq3 : Kept WE w3 := kd.trans hk3)
                | (go_at_call 7; refine (HM3.out _ kq3).mono ?_; rintro e w4 ⟨m4, rfl, hM4, hk4⟩; obtain ⟨ga4, ba4, gc4, bc4, rfl, ig4, ib4, _⟩ := mkG_two hM4; have kq4 : Kept WE w4 := kq3.trans hk4)
                | (go_at_call 8; refine (sameMarker_yes _ ga4 ba4 pa3 pb3 gc4 bc4 pc3 pd3 2 0 nl all ig4 (HX.out _ kq4).2.2.g ib4 (HX.out _ kq4).2.2.b (by omega) (by omega)).mono ?_; rintro e w5 ⟨rfl, hk5⟩; have kq5 : Kept WE w5 := kq4.trans hk5)
                | (go_at_call 10; refine (HK3.out _ kq5).mono ?_; rintro e w6 ⟨rfl, hk6⟩; have kq6 : Kept WE w6 := kq5.trans hk6)))
          all_goals (go_wp2_with fail; go_ret; exact ⟨rfl, (K3.trans k14).trans kq6⟩)
      · obtain ⟨rfl, rfl, rfl⟩ := HC.out.1 (by simp [hp1])
        have hpb : (pa != 1) = true := by simp [hp1]
        have HP1 : Hid _ := hp1
        clear hp1
        go_wp2_with (first | (go_at_call 11; refine hMk.mono ?_; rintro e w11 ⟨rfl, hk11⟩; obtain ⟨⟨d3c, d40, d41, d42, d43⟩, d60, d61, d62, d63⟩ := HS.out _ (kW.trans hk11)) | (go_at_call 8; refine (sameMarker_yes _ xa ya ga ba xc yc gc bc pa at' g2 b2 (HI.out _ (kW.trans hk11)).2.2.1.g (HI.out _ (kW.trans hk11)).2.1.g (HI.out _ (kW.trans hk11)).2.2.1.b (HI.out _ (kW.trans hk11)).2.1.b (by omega) (by omega)).mono ?_; rintro e w12 ⟨rfl, hk12⟩))
        go_ret
        exact ⟨rfl, ((K3.trans kW).trans hk11).trans hk12⟩

set_option maxRecDepth 100000 in
theorem lifted (os : Os) (started : os.Started) (H : Type) (enc : TypeId × Value → H) :
    ReturnsInHanded {} Tryz.checked os 3 .any (Rows.fnMarksSpec.pre6 enc Tryz.prog Tryz.f3 Rows.fnMarksRow.domain false) (Rows.fnMarksSpec.post enc Tryz.prog Tryz.f3 false true false false) := by
  refine returnsInHanded_of_change (C := Tryz.checked) own started (by kernel_rfl) Tryz.func3
    (ChangeSpec.witness6 (enc := enc) (C := Tryz.checked) false ⟨#[], #[.slice none 0 0], []⟩ 8 (by kernel_rfl) (by kernel_rfl) (by kernel_rfl) (by kernel_rfl)) ?_
  intro W base args ds gs before hval0 hW hcnd _
  have hval : ∀ (j : Nat) t v, Tryz.f3.params[j]? = some t → args[j]? = some v → Value.okWide Tryz.prog W .any base t v := hval0
  have hW' := hW
  obtain ⟨p, q, hA0, hV, rfl, hfz, hnd⟩ := hW
  have hA : DataW.TrodAll enc Tryz.prog W 0 (fun _ => true) true Tryz.f3.params.toList args.toList ds p := hA0
  rw [Tryz.params3] at hA hval
  obtain ⟨v0, vs0, d0, ds0, p0, q0, hargs, rfl, rfl, h0, r0⟩ := trodAll_cons hA
  obtain ⟨rfl, rfl, rfl⟩ := trodAll_nil r0
  obtain rfl : args = #[v0] := by cases args; simp_all
  obtain ⟨rfl, rfl⟩ := trodVars_none hV
  obtain ⟨a0, len0, cap0, rfl⟩ := okWide_slice Tryz.underlying22 (hval 0 22 v0 rfl rfl)
  have k0 := h0
  have lt0 : ∀ x ∈ p0, x.block < W.heap.size := by obtain ⟨m, hm⟩ := k0; exact DataW.trod_lt m _ _ _ hm
  obtain ⟨z0, w0⟩ : ∃ zs, IsRow .u8 W a0 len0 cap0 zs := by
    obtain ⟨fuel, hf⟩ := h0
    rcases open_ints Tryz.underlying22 Tryz.underlying5 (by kernel_rfl) hf with ⟨hcs, _⟩ | ⟨x, l, c, zs, hcs, _, hl, hm, hz, _, hcell, hwz⟩
    · simp [Value.cells] at hcs
      obtain ⟨rfl, rfl, rfl⟩ := hcs
      exact ⟨[], .inl ⟨rfl, rfl, rfl, rfl⟩⟩
    · simp [Value.cells] at hcs
      obtain ⟨rfl, rfl, rfl⟩ := hcs
      exact ⟨zs, .inr ⟨_, rfl, hl, hm, by simpa using hz, hcell, hwz⟩⟩
  clear hA0 hval0
  refine (walk a0 len0 cap0 z0 W w0).mono fun e W' ⟨he, bel⟩ => ?_
  subst he
  exact ⟨_, rfl, _, _, _, [], _, [], hW', trodAll_mk1 (shut_bool Tryz.underlying4 _), (trodAll_cons_mk (Below.trod laidOut (by kernel_rfl) (of_decide_eq_true (by kernel_rfl)) k0 bel lt0) trodAll_mk0), rfl, bel.frame _, fun h => by cases h⟩

theorem over : Rows.fnMarksRow.holds Tryz.pinned (OpenSpec.ofChange Rows.fnMarksSpec) :=
  OpenClaim.holds_of_wide 3 Tryz.f3 rfl rfl rfl rfl rfl rfl rfl ⟨rfl, rfl, rfl, rfl, rfl⟩ rfl rfl rfl rfl rfl (by kernel_rfl) Tryz.func3 (by kernel_rfl)
    (of_decide_eq_true (by kernel_rfl)) (by unfold Func.isWrapper; first | (rw [if_pos (by decide +kernel)]; kernel_rfl) | (rw [if_neg (by decide +kernel)]; exact ⟨rfl, rfl⟩))
    (fun os started H enc _ => lifted os started H enc)

theorem proved : Rows.FnMarksSaid := over
#print axioms proved
end Go.Proofs.YtchkijeaaealmaaGreat.fnMarks
