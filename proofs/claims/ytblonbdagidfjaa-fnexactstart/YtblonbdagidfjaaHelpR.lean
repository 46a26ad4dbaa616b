/-
  The law's helpers for markers: markMarker, heldMarker; lists that are marked from a number on, and held.
-/
import Derived.Test.YtblonbdagidfjaaHelpV
import Derived.Test.YtblonbdagidfjaaMrkD
namespace Go.Proofs.Ytblonbdagidfjaa
open Go.RowKit

/-- A marker of one's own is marked: its two rows hold their marks. -/
theorem markMarker_ok (w : World) (base : Nat) (ph at' : Int) (ga ba : Option Addr) (gc bc : Nat) (gs bs : List Int) (hg : OwnL w base (.slice ga gs.length gc) gs) (hb : OwnL w base (.slice ba bs.length bc) bs) (hn : ∀ j, (Value.slice ga gs.length gc).ownBlock = some j → (Value.slice ba bs.length bc).ownBlock ≠ some j) (hbase : base ≤ w.heap.size) (hgl : gs.length + 1 ≤ 2097153) (hbl : bs.length ≤ 2097152) :
    Calls Try.prog 19 #[.agg #[.int .i64 ph, .slice ga gs.length gc, .slice ba bs.length bc, .int .i64 at'], .int .i64 1] w fun e w' => e = .returned (.int .i64 ((gs.length : Int) + 1 + (bs.length : Int))) ∧ Ints w' ga (marksF 1 gs.length) ∧ Ints w' ba (marksF (gs.length + 1) bs.length) ∧ Below base w w' ∧ ∃ w1, w.grownBy w1 (Value.slice ga gs.length gc).ownBlock ∧ w1.grownBy w' (Value.slice ba bs.length bc).ownBlock := by
  have b0 := Cells.new w 36 #[.int .i64 ph, .slice ga gs.length gc, .slice ba bs.length bc, .int .i64 at']
  have k0 : Kept w (w.alloc (.cells #[.int .i64 ph, .slice ga gs.length gc, .slice ba bs.length bc, .int .i64 at'] 36)) := Kept.alloc (Below.refl _ _) _
  have HG : Hid (OwnL (w.alloc (.cells #[.int .i64 ph, .slice ga gs.length gc, .slice ba bs.length bc, .int .i64 at'] 36)) base (.slice ga gs.length gc) gs) := OwnL.kept (row := none) hg k0.grown (fun k e => by cases e)
  have HB : Hid (OwnL (w.alloc (.cells #[.int .i64 ph, .slice ga gs.length gc, .slice ba bs.length bc, .int .i64 at'] 36)) base (.slice ba bs.length bc) bs) := OwnL.kept (row := none) hb k0.grown (fun k e => by cases e)
  have hgw : ∀ j, (Value.slice ga gs.length gc).ownBlock = some j → base ≤ j ∧ j < w.heap.size := fun j hj => hg.2.lt j hj
  have hbw : ∀ j, (Value.slice ba bs.length bc).ownBlock = some j → base ≤ j ∧ j < w.heap.size := fun j hj => hb.2.lt j hj
  have HN : Hid _ := hn
  have HGW : Hid _ := hgw
  have HBW : Hid _ := hbw
  clear hg hb hn hgw hbw
  go_enter Try.func19, Try.ntmps19
  have c1 := b0.cell 1
  go_wp2_with fail
  refine (markOwnF_ok _ base 1 _ gs HG.out (by omega) (by omega)).mono ?_
  rintro e w1 ⟨rfl, ⟨_, _, ev, hI1, ha1⟩, hg1⟩
  cases ev
  have y1 := b0.grown hg1 (fun e => by have := (HGW.out _ e.symm).2; omega)
  have c2 := y1.cell 2
  have OB : Hid (OwnL w1 base (.slice ba bs.length bc) bs) := OwnL.kept HB.out hg1 (fun k e j hj ek => by subst ek; exact HN.out _ e hj)
  have HI1 : Hid (Ints w1 ga (marksF 1 gs.length)) := hI1
  have HA1 : Hid _ := ha1
  have HG1 : Hid _ := hg1
  clear c1 hI1 ha1 hg1 y1
  have e1 : ((1 : Nat) : Int) + (gs.length : Int) = (((gs.length + 1 : Nat)) : Int) := by omega
  rw [e1]
  go_wp2_with fail
  refine (markOwnF_ok _ base (gs.length + 1) _ bs OB.out hbl hgl).mono ?_
  rintro e w2 ⟨rfl, ⟨_, _, ev, hI2, ha2⟩, hg2⟩
  cases ev
  have HI2 : Hid (Ints w2 ba (marksF (gs.length + 1) bs.length)) := hI2
  have HG2 : Hid _ := hg2
  clear c2 hI2 ha2 hg2
  go_wp2_with fail
  go_ret
  refine ⟨by simp, ?_, HI2.out, ?_, w1, kept_grown k0 HG1.out, HG2.out⟩
  · exact Ints.far HI1.out HG2.out (fun x e eb => HN.out _ (HA1.out x e) eb)
  · have K1 : Below base w w1 := Below.grown (k0.mono hbase) HG1.out (by simp; omega) (fun k e => (HGW.out k e).1)
    exact Below.grown K1 HG2.out (Nat.le_trans hbase K1.size) (fun k e => (HBW.out k e).1)
/-- A marker of two rows is marked from a number on: one row is written behind the other. -/
theorem markMarkerR_ok (w : World) (ph at' : Int) (g1 g2 c1' c2' k0 : Nat) (gs bs : List Int) (h1 : Row w g1 gs) (h2 : Row w g2 bs) (hne : g1 ≠ g2) (hk : k0 + gs.length ≤ 1048577) (hgl : gs.length ≤ 1048576) (hbl : bs.length ≤ 1048576) :
    Calls Try.prog 19 #[.agg #[.int .i64 ph, .slice (some ⟨g1, 0, none⟩) gs.length c1', .slice (some ⟨g2, 0, none⟩) bs.length c2', .int .i64 at'], .int .i64 k0] w fun e w' => e = .returned (.int .i64 ((k0 : Int) + (gs.length : Int) + (bs.length : Int))) ∧ ∃ w1, w.grownBy w1 (some g1) ∧ w1.grownBy w' (some g2) := by
  have b0 := Cells.new w 36 #[.int .i64 ph, .slice (some ⟨g1, 0, none⟩) gs.length c1', .slice (some ⟨g2, 0, none⟩) bs.length c2', .int .i64 at']
  have k0' : Kept w (w.alloc (.cells #[.int .i64 ph, .slice (some ⟨g1, 0, none⟩) gs.length c1', .slice (some ⟨g2, 0, none⟩) bs.length c2', .int .i64 at'] 36)) := Kept.alloc (Below.refl _ _) _
  have l1 := h1.lt
  have l2 := h2.lt
  have hM := markFrom_ok _ g1 c1' k0 gs (h1.kept k0') hgl (by omega)
  have HR2 : Hid (Row (w.alloc (.cells #[.int .i64 ph, .slice (some ⟨g1, 0, none⟩) gs.length c1', .slice (some ⟨g2, 0, none⟩) bs.length c2', .int .i64 at'] 36)) g2 bs) := h2.kept k0'
  have HK0 : Hid (Kept w (w.alloc (.cells #[.int .i64 ph, .slice (some ⟨g1, 0, none⟩) gs.length c1', .slice (some ⟨g2, 0, none⟩) bs.length c2', .int .i64 at'] 36))) := k0'
  clear h1 h2 k0'
  go_enter Try.func19, Try.ntmps19
  have c1 := b0.cell 1
  go_wp2_with fail
  refine hM.mono ?_
  rintro e w1 ⟨rfl, hg1⟩
  have y1 := b0.grown hg1 (fun e => by cases e; omega)
  have c2 := y1.cell 2
  have hR3 := Row.grown HR2.out hg1 (fun e => by injection e with e; exact hne e.symm)
  have HG1 : Hid (w.grownBy w1 (some g1)) := kept_grown HK0.out hg1
  clear c1 hg1 y1
  have e1 : (k0 : Int) + (gs.length : Int) = (((k0 + gs.length : Nat)) : Int) := by omega
  rw [e1]
  clear e1
  go_wp2_with fail
  refine (markFrom_ok _ g2 c2' (k0 + gs.length) bs hR3 hbl (by omega)).mono ?_
  rintro e w2 ⟨rfl, hg2⟩
  have HG2 : Hid (w1.grownBy w2 (some g2)) := hg2
  clear c2 hg2
  go_wp2_with fail
  go_ret
  exact ⟨by simp, w1, HG1.out, HG2.out⟩
theorem heldMarker_ok (w : World) (ph at' : Int) (ga ba : Option Addr) (gc bc lg lb : Nat) (hG : Ints w ga (marksF 1 lg)) (hB : Ints w ba (marksF (lg + 1) lb)) (hgl : lg ≤ 2097152) (hbl : lb ≤ 2097152) :
    Calls Try.prog 20 #[.agg #[.int .i64 ph, .slice ga lg gc, .slice ba lb bc, .int .i64 at'], .int .i64 1] w fun e w' => e = .returned (.int .i64 ((lg : Int) + 1 + (lb : Int))) ∧ Kept w w' := by
  have b0 := Cells.new w 36 #[.int .i64 ph, .slice ga lg gc, .slice ba lb bc, .int .i64 at']
  have k0 : Kept w (w.alloc (.cells #[.int .i64 ph, .slice ga lg gc, .slice ba lb bc, .int .i64 at'] 36)) := Kept.alloc (Below.refl _ _) _
  have hG1 := heldF_ok _ ga gc 1 lg (hG.kept k0) hgl (by omega)
  have hB1 := heldF_ok _ ba bc (lg + 1) lb (hB.kept k0) hbl (by omega)
  clear hG hB
  have c1 := b0.cell 1
  have c2 := b0.cell 2
  go_enter Try.func20, Try.ntmps20
  go_wp2_with fail
  refine hG1.mono ?_
  rintro e w1 ⟨rfl, rfl⟩
  have e1 : ((1 : Nat) : Int) + (lg : Int) = (((lg + 1 : Nat)) : Int) := by omega
  rw [e1]
  have d1 : decide ((((lg + 1 : Nat)) : Int) < 0) = false := by rw [decide_eq_false_iff_not]; omega
  have d2 : decide ((((lg + 1 : Nat)) : Int) + (lb : Int) < 0) = false := by rw [decide_eq_false_iff_not]; omega
  go_wp2_with fail
  refine hB1.mono ?_
  rintro e w2 ⟨rfl, rfl⟩
  go_wp2_with fail
  go_ret
  exact ⟨by simp, k0⟩
end Go.Proofs.Ytblonbdagidfjaa
