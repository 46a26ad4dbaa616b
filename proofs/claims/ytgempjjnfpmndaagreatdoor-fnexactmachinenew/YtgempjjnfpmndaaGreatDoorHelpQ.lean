/-
  The law's helpers for markers: szMarker, toMarker, eqMarker.
-/
import Derived.Test.YtgempjjnfpmndaaGreatDoorHelpL
import Derived.Deep.CutRange
namespace Go.Proofs.YtgempjjnfpmndaaGreatDoor
open Go.RowKit

theorem szIntS_from (w : World) (ao : Option Addr) (cap len : Nat) (left : Int) (h0 : 0 ≤ left - (len : Int)) (h1 : left ≤ 1048576) :
    Calls Tryz.prog 24 #[.slice ao len cap, .int .i64 left] w fun e w' => e = .returned (.int .i64 (left - (len : Int))) ∧ w = w' := by
  have hd : decide (left - (len : Int) < 0) = false := by rw [decide_eq_false_iff_not]; omega
  go_enter Tryz.func24, Tryz.ntmps24
  go_wp2_with go_in
  go_ret
  exact ⟨rfl, rfl⟩
theorem szIntS_over (w : World) (ao : Option Addr) (cap len : Nat) (left : Int) (h0 : left - (len : Int) < 0) (h1 : 0 ≤ left) (h2 : left ≤ 1048576) (hm : len ≤ 9223372036854775807) :
    Calls Tryz.prog 24 #[.slice ao len cap, .int .i64 left] w fun e w' => e = .returned (.int .i64 (-1)) ∧ w = w' := by
  have hd : decide (left - (len : Int) < 0) = true := by rw [decide_eq_true_iff]; omega
  go_enter Tryz.func24, Tryz.ntmps24
  go_wp2_with go_in
  go_ret
  exact ⟨rfl, rfl⟩
theorem szMarker_ok (w : World) (ga ba : Option Addr) (gc bc lg lb : Nat) (ph at' left : Int) (h0 : 0 ≤ left - (lg : Int) - (lb : Int)) (h1 : left ≤ 1048576) :
    Calls Tryz.prog 22 #[.agg #[.int .i64 ph, .slice ga lg gc, .slice ba lb bc, .int .i64 at'], .int .i64 left] w fun e w' => e = .returned (.int .i64 (left - (lg : Int) - (lb : Int))) ∧ Kept w w' := by
  have b0 := Cells.new w 30 #[.int .i64 ph, .slice ga lg gc, .slice ba lb bc, .int .i64 at']
  have k0 : Kept w (w.alloc (.cells #[.int .i64 ph, .slice ga lg gc, .slice ba lb bc, .int .i64 at'] 30)) := Kept.alloc (Below.refl _ _) _
  have c1 := b0.cell 1
  have c2 := b0.cell 2
  have hG := szIntS_from (w.alloc (.cells #[.int .i64 ph, .slice ga lg gc, .slice ba lb bc, .int .i64 at'] 30)) ga gc lg left (by omega) h1
  have hB := szIntS_from (w.alloc (.cells #[.int .i64 ph, .slice ga lg gc, .slice ba lb bc, .int .i64 at'] 30)) ba bc lb (left - (lg : Int)) h0 (by omega)
  have d1 : decide (left - (lg : Int) < 0) = false := by rw [decide_eq_false_iff_not]; omega
  have d2 : decide (left - (lg : Int) - (lb : Int) < 0) = false := by rw [decide_eq_false_iff_not]; omega
  go_enter Tryz.func22, Tryz.ntmps22
  go_wp2_with fail
  refine hG.mono ?_
  rintro e wx ⟨rfl, rfl⟩
  go_wp2_with fail
  refine hB.mono ?_
  rintro e wx ⟨rfl, rfl⟩
  go_wp2_with fail
  go_ret
  exact ⟨rfl, k0⟩
theorem szMarker_over (w : World) (ga ba : Option Addr) (gc bc lg lb : Nat) (ph at' left : Int) (h0 : left - (lg : Int) - (lb : Int) < 0) (h1 : 0 ≤ left) (h2 : left ≤ 1048576) (hm : lg ≤ 9223372036854775807) (hm2 : lb ≤ 9223372036854775807) :
    Calls Tryz.prog 22 #[.agg #[.int .i64 ph, .slice ga lg gc, .slice ba lb bc, .int .i64 at'], .int .i64 left] w fun e w' => e = .returned (.int .i64 (-1)) ∧ Kept w w' := by
  have b0 := Cells.new w 30 #[.int .i64 ph, .slice ga lg gc, .slice ba lb bc, .int .i64 at']
  have k0 : Kept w (w.alloc (.cells #[.int .i64 ph, .slice ga lg gc, .slice ba lb bc, .int .i64 at'] 30)) := Kept.alloc (Below.refl _ _) _
  have c1 := b0.cell 1
  have c2 := b0.cell 2
  by_cases hb : left - (lg : Int) < 0
  · have hG := szIntS_over (w.alloc (.cells #[.int .i64 ph, .slice ga lg gc, .slice ba lb bc, .int .i64 at'] 30)) ga gc lg left hb h1 h2 hm
    go_enter Tryz.func22, Tryz.ntmps22
    go_wp2_with fail
    refine hG.mono ?_
    rintro e wx ⟨rfl, rfl⟩
    go_wp2_with fail
    go_ret
    exact ⟨rfl, k0⟩
  · have hG := szIntS_from (w.alloc (.cells #[.int .i64 ph, .slice ga lg gc, .slice ba lb bc, .int .i64 at'] 30)) ga gc lg left (by omega) h2
    have hB := szIntS_over (w.alloc (.cells #[.int .i64 ph, .slice ga lg gc, .slice ba lb bc, .int .i64 at'] 30)) ba bc lb (left - (lg : Int)) h0 (by omega) (by omega) hm2
    have d1 : decide (left - (lg : Int) < 0) = false := by rw [decide_eq_false_iff_not]; omega
    go_enter Tryz.func22, Tryz.ntmps22
    go_wp2_with fail
    refine hG.mono ?_
    rintro e wx ⟨rfl, rfl⟩
    go_wp2_with fail
    refine hB.mono ?_
    rintro e wx ⟨rfl, rfl⟩
    go_wp2_with fail
    go_ret
    exact ⟨rfl, k0⟩
theorem eqMarker_ok (w : World) (ga ba ga' ba' : Option Addr) (gc bc gc' bc' : Nat) (ph at' : Int) (gs bs : List Int) (hG : Ints w ga gs) (hG' : Ints w ga' gs) (hB : Ints w ba bs) (hB' : Ints w ba' bs) (hgl : gs.length ≤ 1152921504606846975) (hbl : bs.length ≤ 1152921504606846975) :
    Calls Tryz.prog 41 #[.agg #[.int .i64 ph, .slice ga gs.length gc, .slice ba bs.length bc, .int .i64 at'], .agg #[.int .i64 ph, .slice ga' gs.length gc', .slice ba' bs.length bc', .int .i64 at']] w fun e w' => e = .returned (.bool true) ∧ Kept w w' := by
  have b0 := (Cells.new w 40 #[.int .i64 ph, .slice ga gs.length gc, .slice ba bs.length bc, .int .i64 at']).alloc (.cells #[.int .i64 ph, .slice ga' gs.length gc', .slice ba' bs.length bc', .int .i64 at'] 40)
  have b1 := Cells.new (w.alloc (.cells #[.int .i64 ph, .slice ga gs.length gc, .slice ba bs.length bc, .int .i64 at'] 40)) 40 #[.int .i64 ph, .slice ga' gs.length gc', .slice ba' bs.length bc', .int .i64 at']
  have k0 : Kept w ((w.alloc (.cells #[.int .i64 ph, .slice ga gs.length gc, .slice ba bs.length bc, .int .i64 at'] 40)).alloc (.cells #[.int .i64 ph, .slice ga' gs.length gc', .slice ba' bs.length bc', .int .i64 at'] 40)) := (Kept.alloc (Below.refl _ _) _).alloc _
  simp only [World.size_alloc] at b1
  have HG : Hid _ := hG
  have HG' : Hid _ := hG'
  have HB : Hid _ := hB
  have HB' : Hid _ := hB'
  clear hG hG' hB hB'
  go_enter Tryz.func41, Tryz.ntmps41
  go_upto_region 1 with (fail)
  obtain ⟨WX, hWX⟩ : ∃ WX, (w.alloc (.cells #[.int .i64 ph, .slice ga gs.length gc, .slice ba bs.length bc, .int .i64 at'] 40)).alloc (.cells #[.int .i64 ph, .slice ga' gs.length gc', .slice ba' bs.length bc', .int .i64 at'] 40) = WX := ⟨_, rfl⟩
  rw [hWX] at b0 b1 k0
  simp only [hWX]
  clear hWX
  have HX0 : Hid (∀ u, Kept WX u → Cells u w.heap.size 40 #[.int .i64 ph, .slice ga gs.length gc, .slice ba bs.length bc, .int .i64 at']) := fun u hu => b0.kept hu
  have HX1 : Hid (∀ u, Kept WX u → Cells u (w.heap.size + 1) 40 #[.int .i64 ph, .slice ga' gs.length gc', .slice ba' bs.length bc', .int .i64 at']) := fun u hu => b1.kept hu
  have HKX : Hid (Kept w WX) := k0
  have m0 := b0.cell 0
  have m1 := b0.cell 1
  have n0 := b1.cell 0
  have n1 := b1.cell 1
  clear b0 b1 k0
  go_wp2_with fail
  refine (eqIntS_ok WX ga ga' gc gc' gs (Ints.kept HG.out HKX.out) (Ints.kept HG'.out HKX.out) hgl).mono ?_
  rintro e w1 ⟨rfl, hk1⟩
  clear m0 m1 n0 n1
  have m2 := (HX0.out w1 hk1).cell 2
  have n2 := (HX1.out w1 hk1).cell 2
  go_wp2_with fail
  refine (eqIntS_ok w1 ba ba' bc bc' bs (Ints.kept HB.out (Kept.trans HKX.out hk1)) (Ints.kept HB'.out (Kept.trans HKX.out hk1)) hbl).mono ?_
  rintro e w2 ⟨rfl, hk2⟩
  clear m2 n2
  have hk12 : Kept WX w2 := Kept.trans hk1 hk2
  have m3 := (HX0.out w2 hk12).cell 3
  have n3 := (HX1.out w2 hk12).cell 3
  go_wp2_with fail
  go_ret
  exact ⟨rfl, Kept.trans HKX.out hk12⟩
set_option maxHeartbeats 4000000 in
theorem toMarker_ok (w : World) (ga ba : Option Addr) (gc bc : Nat) (ph at' : Int) (gs bs : List Int) (hG : Ints w ga gs) (hB : Ints w ba bs) (hgl : gs.length ≤ 1048576) (hbl : bs.length ≤ 1048576) :
    Calls Tryz.prog 31 #[.agg #[.int .i64 ph, .slice ga gs.length gc, .slice ba bs.length bc, .int .i64 at']] w fun e w' => ∃ g1 g2, e = .returned (.agg #[.int .i64 ph, .slice (some ⟨g1, 0, none⟩) gs.length gs.length, .slice (some ⟨g2, 0, none⟩) bs.length bs.length, .int .i64 at']) ∧ w.heap.size ≤ g1 ∧ g1 < g2 ∧ Row w' g1 gs ∧ Row w' g2 bs ∧ Kept w w' := by
  have b0 := ((Cells.new w 30 #[.int .i64 ph, .slice ga gs.length gc, .slice ba bs.length bc, .int .i64 at']).alloc (.cells #[.int .i64 0, .slice none 0 0, .slice none 0 0, .int .i64 0] 40)).alloc (.cells #[.int .i64 0, .slice none 0 0, .slice none 0 0, .int .i64 0] 40)
  have b1 := (Cells.new (w.alloc (.cells #[.int .i64 ph, .slice ga gs.length gc, .slice ba bs.length bc, .int .i64 at'] 30)) 40 #[.int .i64 0, .slice none 0 0, .slice none 0 0, .int .i64 0]).alloc (.cells #[.int .i64 0, .slice none 0 0, .slice none 0 0, .int .i64 0] 40)
  have b2 := Cells.new ((w.alloc (.cells #[.int .i64 ph, .slice ga gs.length gc, .slice ba bs.length bc, .int .i64 at'] 30)).alloc (.cells #[.int .i64 0, .slice none 0 0, .slice none 0 0, .int .i64 0] 40)) 40 #[.int .i64 0, .slice none 0 0, .slice none 0 0, .int .i64 0]
  have k0 : Kept w (((w.alloc (.cells #[.int .i64 ph, .slice ga gs.length gc, .slice ba bs.length bc, .int .i64 at'] 30)).alloc (.cells #[.int .i64 0, .slice none 0 0, .slice none 0 0, .int .i64 0] 40)).alloc (.cells #[.int .i64 0, .slice none 0 0, .slice none 0 0, .int .i64 0] 40)) := ((Kept.alloc (Below.refl _ _) _).alloc _).alloc _
  have hsX : (((w.alloc (.cells #[.int .i64 ph, .slice ga gs.length gc, .slice ba bs.length bc, .int .i64 at'] 30)).alloc (.cells #[.int .i64 0, .slice none 0 0, .slice none 0 0, .int .i64 0] 40)).alloc (.cells #[.int .i64 0, .slice none 0 0, .slice none 0 0, .int .i64 0] 40)).heap.size = w.heap.size + 3 := by simp
  simp only [World.size_alloc] at b1 b2
  have HG : Hid _ := hG
  have HB : Hid _ := hB
  clear hG hB
  go_enter Tryz.func31, Tryz.ntmps31
  go_upto_region 2 with (fail)
  obtain ⟨WX, hWX⟩ : ∃ WX, (((w.alloc (.cells #[.int .i64 ph, .slice ga gs.length gc, .slice ba bs.length bc, .int .i64 at'] 30)).alloc (.cells #[.int .i64 0, .slice none 0 0, .slice none 0 0, .int .i64 0] 40)).alloc (.cells #[.int .i64 0, .slice none 0 0, .slice none 0 0, .int .i64 0] 40)) = WX := ⟨_, rfl⟩
  rw [hWX] at b0 b1 b2 k0 hsX
  simp only [hWX]
  clear hWX
  have HKX : Hid (Kept w WX) := k0
  have m0 := b0.cell 0
  have n0 := b2.cell 0
  have f0 := b2.frozen 0
  have B0 : Hid _ := b0.other (p := ⟨w.heap.size + 2, 0, none⟩) (by simp) (.int .i64 ph)
  have B1 : Hid _ := b1.other (p := ⟨w.heap.size + 2, 0, none⟩) (by simp) (.int .i64 ph)
  have B2 : Hid (Cells (WX.setCell ⟨w.heap.size + 2, 0, none⟩ (.int .i64 ph)) (w.heap.size + 2) 40 #[.int .i64 ph, .slice none 0 0, .slice none 0 0, .int .i64 0]) := b2.set 0 (.int .i64 ph)
  have K1 : Hid (Kept w (WX.setCell ⟨w.heap.size + 2, 0, none⟩ (.int .i64 ph))) := k0.set (by simp) _
  have S1 : Hid ((WX.setCell ⟨w.heap.size + 2, 0, none⟩ (.int .i64 ph)).heap.size = w.heap.size + 3) := by rw [Hid, World.size_setCell]; exact hsX
  go_upto_region 3 with (fail)
  obtain ⟨W1, hW1⟩ : ∃ W1, WX.setCell ⟨w.heap.size + 2, 0, none⟩ (.int .i64 ph) = W1 := ⟨_, rfl⟩
  rw [hW1] at B0 B1 B2 K1 S1
  simp only [hW1]
  clear hW1 m0 n0 f0 b0 b1 b2 k0 hsX
  have m1 := Cells.cell B0.out 1
  go_wp2_with fail
  refine (toIntS_ok W1 ga gc gs (Ints.kept HG.out K1.out) hgl).mono ?_
  rintro e w2 ⟨rfl, hR1, hk1⟩
  rw [S1.out] at hR1
  try rw [S1.out]
  clear m1
  have y2 := B2.out.kept hk1
  have n1 := y2.cell 1
  have f1 := y2.frozen 1
  have hs2 := hk1.size
  rw [S1.out] at hs2
  have C0 : Hid _ := (Cells.kept B0.out hk1).other (p := ⟨w.heap.size + 2, 1, none⟩) (by simp) (.slice (some ⟨w.heap.size + 3, 0, none⟩) gs.length gs.length)
  have C1 : Hid _ := (Cells.kept B1.out hk1).other (p := ⟨w.heap.size + 2, 1, none⟩) (by simp) (.slice (some ⟨w.heap.size + 3, 0, none⟩) gs.length gs.length)
  have C2 : Hid (Cells (w2.setCell ⟨w.heap.size + 2, 1, none⟩ (.slice (some ⟨w.heap.size + 3, 0, none⟩) gs.length gs.length)) (w.heap.size + 2) 40 #[.int .i64 ph, .slice (some ⟨w.heap.size + 3, 0, none⟩) gs.length gs.length, .slice none 0 0, .int .i64 0]) := y2.set 1 (.slice (some ⟨w.heap.size + 3, 0, none⟩) gs.length gs.length)
  have K2 : Hid (Kept w (w2.setCell ⟨w.heap.size + 2, 1, none⟩ (.slice (some ⟨w.heap.size + 3, 0, none⟩) gs.length gs.length))) := (Kept.trans K1.out hk1).set (by simp) _
  have R2 : Hid (Row (w2.setCell ⟨w.heap.size + 2, 1, none⟩ (.slice (some ⟨w.heap.size + 3, 0, none⟩) gs.length gs.length)) (w.heap.size + 3) gs) := hR1.other (by simp) _
  have S2 : Hid (w.heap.size + 4 ≤ (w2.setCell ⟨w.heap.size + 2, 1, none⟩ (.slice (some ⟨w.heap.size + 3, 0, none⟩) gs.length gs.length)).heap.size) := by have := hR1.lt; rw [Hid, World.size_setCell]; omega
  clear y2 hs2 hk1 hR1
  go_upto_region 4 with (fail)
  obtain ⟨W2, hW2⟩ : ∃ W2, w2.setCell ⟨w.heap.size + 2, 1, none⟩ (.slice (some ⟨w.heap.size + 3, 0, none⟩) gs.length gs.length) = W2 := ⟨_, rfl⟩
  rw [hW2] at C0 C1 C2 K2 R2 S2
  simp only [hW2]
  clear hW2 n1 f1
  have m2 := Cells.cell C0.out 2
  go_wp2_with fail
  refine (toIntS_ok W2 ba bc bs (Ints.kept HB.out K2.out) hbl).mono ?_
  rintro e w3 ⟨rfl, hR3, hk3⟩
  clear m2
  obtain ⟨g2, hg2⟩ : ∃ g2, W2.heap.size = g2 := ⟨_, rfl⟩
  rw [hg2] at hR3 S2
  simp only [hg2]
  have s2 := S2.out
  have y3 := C2.out.kept hk3
  have n2 := y3.cell 2
  have f2 := y3.frozen 2
  have D0 := ((Cells.kept C0.out hk3).other (p := ⟨w.heap.size + 2, 2, none⟩) (by simp) (.slice (some ⟨g2, 0, none⟩) bs.length bs.length))
  have m3 := D0.cell 3
  have D2 : Cells (w3.setCell ⟨w.heap.size + 2, 2, none⟩ (.slice (some ⟨g2, 0, none⟩) bs.length bs.length)) (w.heap.size + 2) 40 #[.int .i64 ph, .slice (some ⟨w.heap.size + 3, 0, none⟩) gs.length gs.length, .slice (some ⟨g2, 0, none⟩) bs.length bs.length, .int .i64 0] := y3.set 2 (.slice (some ⟨g2, 0, none⟩) bs.length bs.length)
  have n3 := D2.cell 3
  have f3 := D2.frozen 3
  have D3 : Hid (Cells ((w3.setCell ⟨w.heap.size + 2, 2, none⟩ (.slice (some ⟨g2, 0, none⟩) bs.length bs.length)).setCell ⟨w.heap.size + 2, 3, none⟩ (.int .i64 at')) (w.heap.size + 2) 40 #[.int .i64 ph, .slice (some ⟨w.heap.size + 3, 0, none⟩) gs.length gs.length, .slice (some ⟨g2, 0, none⟩) bs.length bs.length, .int .i64 at']) := D2.set 3 (.int .i64 at')
  have E1 : Hid _ := ((Cells.kept C1.out hk3).other (p := ⟨w.heap.size + 2, 2, none⟩) (by simp) (.slice (some ⟨g2, 0, none⟩) bs.length bs.length)).other (p := ⟨w.heap.size + 2, 3, none⟩) (by simp) (.int .i64 at')
  have K3 : Hid (Kept w ((w3.setCell ⟨w.heap.size + 2, 2, none⟩ (.slice (some ⟨g2, 0, none⟩) bs.length bs.length)).setCell ⟨w.heap.size + 2, 3, none⟩ (.int .i64 at'))) := ((Kept.trans K2.out hk3).set (by simp) _).set (by simp) _
  have RA : Hid (Row ((w3.setCell ⟨w.heap.size + 2, 2, none⟩ (.slice (some ⟨g2, 0, none⟩) bs.length bs.length)).setCell ⟨w.heap.size + 2, 3, none⟩ (.int .i64 at')) (w.heap.size + 3) gs) := ((R2.out.kept hk3).other (by simp) _).other (by simp) _
  have RB : Hid (Row ((w3.setCell ⟨w.heap.size + 2, 2, none⟩ (.slice (some ⟨g2, 0, none⟩) bs.length bs.length)).setCell ⟨w.heap.size + 2, 3, none⟩ (.int .i64 at')) g2 bs) := (hR3.other (by simp; omega) _).other (by simp; omega) _
  clear hk3 hR3 y3 D0 D2 C0 C1 C2 K2 R2
  go_upto_region 6 with (fail)
  obtain ⟨W3, hW3⟩ : ∃ W3, (w3.setCell ⟨w.heap.size + 2, 2, none⟩ (.slice (some ⟨g2, 0, none⟩) bs.length bs.length)).setCell ⟨w.heap.size + 2, 3, none⟩ (.int .i64 at') = W3 := ⟨_, rfl⟩
  rw [hW3] at D3 E1 K3 RA RB
  simp only [hW3]
  clear hW3 n2 f2 n3 f3 m3
  have c0 := D3.out.cell 0
  have c1 := D3.out.cell 1
  have c2 := D3.out.cell 2
  have c3 := D3.out.cell 3
  have d0 := Cells.cell E1.out 0
  have d1 := Cells.cell E1.out 1
  have d2 := Cells.cell E1.out 2
  have d3 := Cells.cell E1.out 3
  have f0 := Cells.frozen E1.out 0
  have f1 := Cells.frozen E1.out 1
  have f2 := Cells.frozen E1.out 2
  have f3 := Cells.frozen E1.out 3
  go_wp2_with fail
  have q : Cells ((((W3.setCell ⟨w.heap.size + 1, 0, none⟩ (.int .i64 ph)).setCell ⟨w.heap.size + 1, 1, none⟩ (.slice (some ⟨w.heap.size + 3, 0, none⟩) gs.length gs.length)).setCell ⟨w.heap.size + 1, 2, none⟩ (.slice (some ⟨g2, 0, none⟩) bs.length bs.length)).setCell ⟨w.heap.size + 1, 3, none⟩ (.int .i64 at')) (w.heap.size + 1) 40 #[.int .i64 ph, .slice (some ⟨w.heap.size + 3, 0, none⟩) gs.length gs.length, .slice (some ⟨g2, 0, none⟩) bs.length bs.length, .int .i64 at'] := (((Cells.set 0 (.int .i64 ph) E1.out).set 1 (.slice (some ⟨w.heap.size + 3, 0, none⟩) gs.length gs.length)).set 2 (.slice (some ⟨g2, 0, none⟩) bs.length bs.length)).set 3 (.int .i64 at')
  have q0 := q.cell 0
  have q1 := q.cell 1
  have q2 := q.cell 2
  have q3 := q.cell 3
  refine bodyPost_ret (v := .agg #[.int .i64 ph, .slice (some ⟨w.heap.size + 3, 0, none⟩) gs.length gs.length, .slice (some ⟨g2, 0, none⟩) bs.length bs.length, .int .i64 at']) (by simp [results, Tryz.results31, go_sem, q0, q1, q2, q3]) rfl ⟨w.heap.size + 3, g2, rfl, by omega, by omega, ?_, ?_, ?_⟩
  · exact (((RA.out.other (by simp) _).other (by simp) _).other (by simp) _).other (by simp) _
  · exact (((RB.out.other (by simp; omega) _).other (by simp; omega) _).other (by simp; omega) _).other (by simp; omega) _
  · exact (((K3.out.set (by simp) _).set (by simp) _).set (by simp) _).set (by simp) _
end Go.Proofs.YtgempjjnfpmndaaGreatDoor
