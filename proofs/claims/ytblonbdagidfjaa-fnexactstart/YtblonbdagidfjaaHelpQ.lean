/-
  The law's helpers for markers: szMarker, toMarker, eqMarker.
-/
import Derived.Test.YtblonbdagidfjaaHelpL
import Derived.Deep.CutRange
namespace Go.Proofs.Ytblonbdagidfjaa
open Go.RowKit

theorem eqMarker_ok (w : World) (ga ba ga' ba' : Option Addr) (gc bc gc' bc' : Nat) (ph at' : Int) (gs bs : List Int) (hG : Ints w ga gs) (hG' : Ints w ga' gs) (hB : Ints w ba bs) (hB' : Ints w ba' bs) (hgl : gs.length ≤ 1152921504606846975) (hbl : bs.length ≤ 1152921504606846975) :
    Calls Try.prog 18 #[.agg #[.int .i64 ph, .slice ga gs.length gc, .slice ba bs.length bc, .int .i64 at'], .agg #[.int .i64 ph, .slice ga' gs.length gc', .slice ba' bs.length bc', .int .i64 at']] w fun e w' => e = .returned (.bool true) ∧ Kept w w' := by
  have b0 := (Cells.new w 36 #[.int .i64 ph, .slice ga gs.length gc, .slice ba bs.length bc, .int .i64 at']).alloc (.cells #[.int .i64 ph, .slice ga' gs.length gc', .slice ba' bs.length bc', .int .i64 at'] 36)
  have b1 := Cells.new (w.alloc (.cells #[.int .i64 ph, .slice ga gs.length gc, .slice ba bs.length bc, .int .i64 at'] 36)) 36 #[.int .i64 ph, .slice ga' gs.length gc', .slice ba' bs.length bc', .int .i64 at']
  have k0 : Kept w ((w.alloc (.cells #[.int .i64 ph, .slice ga gs.length gc, .slice ba bs.length bc, .int .i64 at'] 36)).alloc (.cells #[.int .i64 ph, .slice ga' gs.length gc', .slice ba' bs.length bc', .int .i64 at'] 36)) := (Kept.alloc (Below.refl _ _) _).alloc _
  simp only [World.size_alloc] at b1
  have HG : Hid _ := hG
  have HG' : Hid _ := hG'
  have HB : Hid _ := hB
  have HB' : Hid _ := hB'
  clear hG hG' hB hB'
  go_enter Try.func18, Try.ntmps18
  go_upto_region 1 with (fail)
  obtain ⟨WX, hWX⟩ : ∃ WX, (w.alloc (.cells #[.int .i64 ph, .slice ga gs.length gc, .slice ba bs.length bc, .int .i64 at'] 36)).alloc (.cells #[.int .i64 ph, .slice ga' gs.length gc', .slice ba' bs.length bc', .int .i64 at'] 36) = WX := ⟨_, rfl⟩
  rw [hWX] at b0 b1 k0
  simp only [hWX]
  clear hWX
  have HX0 : Hid (∀ u, Kept WX u → Cells u w.heap.size 36 #[.int .i64 ph, .slice ga gs.length gc, .slice ba bs.length bc, .int .i64 at']) := fun u hu => b0.kept hu
  have HX1 : Hid (∀ u, Kept WX u → Cells u (w.heap.size + 1) 36 #[.int .i64 ph, .slice ga' gs.length gc', .slice ba' bs.length bc', .int .i64 at']) := fun u hu => b1.kept hu
  have HKX : Hid (Kept w WX) := k0
  have m0 := b0.cell 0
  have m1 := b0.cell 1
  have n0 := b1.cell 0
  have n1 := b1.cell 1
  clear b0 b1 k0
  go_wp2_with fail
  refine (eqIntS_ok WX ga ga' gc gc' gs (Ints.kept HG.out HKX.out) (Ints.kept HG'.out HKX.out) hgl).mono ?_
  rintro e w1 ⟨rfl, hk1⟩
  clear m0 m1 n0 n1
  have m2 := (HX0.out w1 hk1).cell 2
  have n2 := (HX1.out w1 hk1).cell 2
  go_wp2_with fail
  refine (eqIntS_ok w1 ba ba' bc bc' bs (Ints.kept HB.out (Kept.trans HKX.out hk1)) (Ints.kept HB'.out (Kept.trans HKX.out hk1)) hbl).mono ?_
  rintro e w2 ⟨rfl, hk2⟩
  clear m2 n2
  have hk12 : Kept WX w2 := Kept.trans hk1 hk2
  have m3 := (HX0.out w2 hk12).cell 3
  have n3 := (HX1.out w2 hk12).cell 3
  go_wp2_with fail
  go_ret
  exact ⟨rfl, Kept.trans HKX.out hk12⟩
end Go.Proofs.Ytblonbdagidfjaa
