/-
  The law's helpers for markers: markMarker, heldMarker; lists that are marked from a number on, and held.
-/
import Derived.Test.YtjgafhmgmddgdaaGreatHelpN
import Derived.Test.YtjgafhmgmddgdaaGreatGrpKa
namespace Go.Proofs.YtjgafhmgmddgdaaGreat
open Go.RowKit

/-- The marks k0, k0 + 1, .. -/
def marksF (k0 n : Nat) : List Int := (List.range n).map (fun i : Nat => (k0 : Int) + (i : Int))
theorem marksF_len (k0 n : Nat) : (marksF k0 n).length = n := by simp [marksF]
theorem marksF_at {k0 n j : Nat} (h : j < n) : hz (marksF k0 n) j = (k0 : Int) + (j : Int) := by simp [hz, marksF, h]
def mixF (k0 : Nat) (zs : List Int) (k : Nat) : List Int := marksF k0 k ++ zs.drop k
theorem mixF_len (k0 : Nat) (zs : List Int) {k : Nat} (hk : k ≤ zs.length) : (mixF k0 zs k).length = zs.length := by simp [mixF, marksF_len]; omega
theorem mixF_all (k0 : Nat) (zs : List Int) : mixF k0 zs zs.length = marksF k0 zs.length := by simp [mixF]
theorem mixF_succ (k0 : Nat) (zs : List Int) {k : Nat} (hk : k < zs.length) : (mixF k0 zs k).set k ((k0 : Int) + (k : Int)) = mixF k0 zs (k + 1) := by
  apply List.ext_getElem?
  intro j
  rw [List.getElem?_set, mixF_len k0 zs (by omega)]
  unfold mixF
  by_cases e : k = j
  · subst e
    rw [if_pos rfl, if_pos hk, List.getElem?_append_left (by simp [marksF_len])]
    simp [marksF]
  · rw [if_neg e]
    by_cases h : j < k
    · rw [List.getElem?_append_left (by simp [marksF_len]; omega), List.getElem?_append_left (by simp [marksF_len]; omega)]
      simp [marksF, h, show j < k + 1 by omega]
    · rw [List.getElem?_append_right (by simp [marksF_len]; omega), List.getElem?_append_right (by simp [marksF_len]; omega)]
      simp only [marksF_len, List.getElem?_drop]
      rw [show k + (j - k) = k + 1 + (j - (k + 1)) by omega]
set_option maxHeartbeats 1000000 in
theorem markRowF_ok (w : World) (g cap k0 : Nat) (zs : List Int) (hR : Row w g zs) (hl : zs.length ≤ 2097152) (hk0 : k0 ≤ 2097153) :
    Calls Tryz.prog 27 #[.slice (some ⟨g, 0, none⟩) zs.length cap, .int .i64 k0] w fun e w' => e = .returned (.int .i64 ((k0 : Int) + (zs.length : Int))) ∧ Row w' g (marksF k0 zs.length) ∧ w.grownBy w' (some g) := by
  go_enter Tryz.func27, Tryz.ntmps27
  go_wp2
  go_loopw [1, 5] (fun m i wr => ∃ k : Nat, i = .int .i64 k ∧ m = .int .i64 ((k0 : Int) + (k : Int)) ∧ k ≤ zs.length ∧ Row wr g (mixF k0 zs k) ∧ w.grownBy wr (some g)) (fun _ i _ => zs.length - (intOf i).toNat)
  case atStart => exact ⟨0, rfl, by simp, Nat.zero_le _, by simpa [mixF, marksF] using hR, World.grownBy.refl _ _⟩
  case round =>
    obtain ⟨k, rfl, rfl, hk, hRk, hGk⟩ := hrel
    clear hR
    by_cases hlt : k < zs.length
    · have hcg := hRk.cell (j := k) (by rw [mixF_len _ _ hk]; exact hlt)
      have hfg := hRk.frozen k
      have HR : Hid (Row _ g ((mixF k0 zs k).set k ((k0 : Int) + (k : Int)))) := hRk.set (k := k) (v := (k0 : Int) + (k : Int)) (by rw [mixF_len _ _ hk]; exact hlt) ⟨by omega, by omega⟩
      have HG : Hid _ := grown_set (k := k) hGk (.int .i64 ((k0 : Int) + (k : Int)))
      clear hRk hGk
      go_wp2
      go_roundw
      case rel => exact ⟨k + 1, by go_num, by go_num, by omega, by rw [← mixF_succ k0 zs hlt]; exact HR.out, HG.out⟩
      case measure => simp [intOf]; omega
    · obtain rfl : k = zs.length := by omega
      have HR : Hid (Row wr g (mixF k0 zs zs.length)) := hRk
      have HG : Hid (w.grownBy wr (some g)) := hGk
      clear hRk hGk
      go_wp2
      go_ret
      exact ⟨rfl, by have := HR.out; rwa [mixF_all] at this, HG.out⟩
theorem markNilF_ok (w : World) (ao : Option Addr) (cap k0 : Nat) :
    Calls Tryz.prog 27 #[.slice ao 0 cap, .int .i64 k0] w fun e w' => e = .returned (.int .i64 k0) ∧ w = w' := by
  go_enter Tryz.func27, Tryz.ntmps27
  go_wp2
  go_loopw [1, 5] (fun m i wr => i = .int .i64 0 ∧ m = .int .i64 (k0 : Int) ∧ wr = w) (fun _ _ _ => 0)
  case atStart => exact ⟨rfl, rfl, rfl⟩
  case round =>
    obtain ⟨rfl, rfl, rfl⟩ := hrel
    go_wp2
    go_ret
    exact ⟨rfl, rfl⟩
/-- A row of one's own is marked; what it holds is told by its address. -/
theorem markOwnF_ok (w : World) (base k0 : Nat) (v : Value) (zs : List Int) (hO : OwnL w base v zs) (hl : zs.length ≤ 2097152) (hk0 : k0 ≤ 2097153) :
    Calls Tryz.prog 27 #[v, .int .i64 k0] w fun e w' => e = .returned (.int .i64 ((k0 : Int) + (zs.length : Int))) ∧ (∃ ao cap, v = .slice ao zs.length cap ∧ Ints w' ao (marksF k0 zs.length) ∧ ∀ x, ao = some x → v.ownBlock = some x.block) ∧ w.grownBy w' v.ownBlock := by
  rcases hO.cases with ⟨rfl, rfl⟩ | ⟨g, cap, rfl, _, _, _, hR⟩
  · refine (markNilF_ok w none 0 k0).mono ?_
    rintro e w' ⟨rfl, rfl⟩
    exact ⟨by simp, ⟨none, 0, rfl, ⟨by simp [marksF], .inl rfl⟩, fun x e => by cases e⟩, World.grownBy.refl _ _⟩
  · refine (markRowF_ok w g cap k0 zs hR hl hk0).mono ?_
    rintro e w' ⟨rfl, hR', hG⟩
    exact ⟨rfl, ⟨_, cap, rfl, hR'.ints, fun x e => by cases e; rfl⟩, hG⟩
set_option maxHeartbeats 1000000 in
theorem heldF_ok (w : World) (ao : Option Addr) (cap k0 n : Nat) (hI : Ints w ao (marksF k0 n)) (hl : n ≤ 2097152) (hk0 : k0 ≤ 2097153) :
    Calls Tryz.prog 28 #[.slice ao n cap, .int .i64 k0] w fun e w' => e = .returned (.int .i64 ((k0 : Int) + (n : Int))) ∧ w = w' := by
  go_enter Tryz.func28, Tryz.ntmps28
  go_wp2
  go_loopw [1, 5] (fun m i wr => wr = w ∧ ∃ k : Nat, i = .int .i64 k ∧ m = .int .i64 ((k0 : Int) + (k : Int)) ∧ k ≤ n) (fun _ i _ => n - (intOf i).toNat)
  case atStart => exact ⟨by first | rfl | trivial, 0, rfl, by simp, Nat.zero_le _⟩
  case round =>
    obtain ⟨rfl, k, rfl, rfl, hk⟩ := hrel
    by_cases hlt : k < n
    · obtain ⟨b, off, rfl, hc⟩ := hI.at (k := k) (by rw [marksF_len]; exact hlt)
      have hck := hc k (by rw [marksF_len]; exact hlt)
      rw [marksF_at hlt] at hck
      clear hc hI
      go_wp2
      go_roundw
      case rel => exact ⟨by first | rfl | trivial, k + 1, by go_num, by go_num, by omega⟩
      case measure => simp [intOf]; omega
    · obtain rfl : k = n := by omega
      clear hI
      go_wp2
      go_ret
      exact ⟨rfl, rfl⟩
/-- A marker of one's own is marked: its two rows hold their marks. -/
theorem markMarker_ok (w : World) (base : Nat) (ph at' : Int) (ga ba : Option Addr) (gc bc : Nat) (gs bs : List Int) (hg : OwnL w base (.slice ga gs.length gc) gs) (hb : OwnL w base (.slice ba bs.length bc) bs) (hn : ∀ j, (Value.slice ga gs.length gc).ownBlock = some j → (Value.slice ba bs.length bc).ownBlock ≠ some j) (hbase : base ≤ w.heap.size) (hgl : gs.length + 1 ≤ 2097153) (hbl : bs.length ≤ 2097152) :
    Calls Tryz.prog 13 #[.agg #[.int .i64 ph, .slice ga gs.length gc, .slice ba bs.length bc, .int .i64 at'], .int .i64 1] w fun e w' => e = .returned (.int .i64 ((gs.length : Int) + 1 + (bs.length : Int))) ∧ Ints w' ga (marksF 1 gs.length) ∧ Ints w' ba (marksF (gs.length + 1) bs.length) ∧ Below base w w' ∧ ∃ w1, w.grownBy w1 (Value.slice ga gs.length gc).ownBlock ∧ w1.grownBy w' (Value.slice ba bs.length bc).ownBlock := by
  have b0 := Cells.new w 29 #[.int .i64 ph, .slice ga gs.length gc, .slice ba bs.length bc, .int .i64 at']
  have k0 : Kept w (w.alloc (.cells #[.int .i64 ph, .slice ga gs.length gc, .slice ba bs.length bc, .int .i64 at'] 29)) := Kept.alloc (Below.refl _ _) _
  have HG : Hid (OwnL (w.alloc (.cells #[.int .i64 ph, .slice ga gs.length gc, .slice ba bs.length bc, .int .i64 at'] 29)) base (.slice ga gs.length gc) gs) := OwnL.kept (row := none) hg k0.grown (fun k e => by cases e)
  have HB : Hid (OwnL (w.alloc (.cells #[.int .i64 ph, .slice ga gs.length gc, .slice ba bs.length bc, .int .i64 at'] 29)) base (.slice ba bs.length bc) bs) := OwnL.kept (row := none) hb k0.grown (fun k e => by cases e)
  have hgw : ∀ j, (Value.slice ga gs.length gc).ownBlock = some j → base ≤ j ∧ j < w.heap.size := fun j hj => hg.2.lt j hj
  have hbw : ∀ j, (Value.slice ba bs.length bc).ownBlock = some j → base ≤ j ∧ j < w.heap.size := fun j hj => hb.2.lt j hj
  have HN : Hid _ := hn
  have HGW : Hid _ := hgw
  have HBW : Hid _ := hbw
  clear hg hb hn hgw hbw
  go_enter Tryz.func13, Tryz.ntmps13
  have c1 := b0.cell 1
  go_wp2_with fail
  refine (markOwnF_ok _ base 1 _ gs HG.out (by omega) (by omega)).mono ?_
  rintro e w1 ⟨rfl, ⟨_, _, ev, hI1, ha1⟩, hg1⟩
  cases ev
  have y1 := b0.grown hg1 (fun e => by have := (HGW.out _ e.symm).2; omega)
  have c2 := y1.cell 2
  have OB : Hid (OwnL w1 base (.slice ba bs.length bc) bs) := OwnL.kept HB.out hg1 (fun k e j hj ek => by subst ek; exact HN.out _ e hj)
  have HI1 : Hid (Ints w1 ga (marksF 1 gs.length)) := hI1
  have HA1 : Hid _ := ha1
  have HG1 : Hid _ := hg1
  clear c1 hI1 ha1 hg1 y1
  have e1 : ((1 : Nat) : Int) + (gs.length : Int) = (((gs.length + 1 : Nat)) : Int) := by omega
  rw [e1]
  go_wp2_with fail
  refine (markOwnF_ok _ base (gs.length + 1) _ bs OB.out hbl hgl).mono ?_
  rintro e w2 ⟨rfl, ⟨_, _, ev, hI2, ha2⟩, hg2⟩
  cases ev
  have HI2 : Hid (Ints w2 ba (marksF (gs.length + 1) bs.length)) := hI2
  have HG2 : Hid _ := hg2
  clear c2 hI2 ha2 hg2
  go_wp2_with fail
  go_ret
  refine ⟨by simp, ?_, HI2.out, ?_, w1, kept_grown k0 HG1.out, HG2.out⟩
  · exact Ints.far HI1.out HG2.out (fun x e eb => HN.out _ (HA1.out x e) eb)
  · have K1 : Below base w w1 := Below.grown (k0.mono hbase) HG1.out (by simp; omega) (fun k e => (HGW.out k e).1)
    exact Below.grown K1 HG2.out (Nat.le_trans hbase K1.size) (fun k e => (HBW.out k e).1)
/-- A marker of two rows is marked from a number on: one row is written behind the other. -/
theorem markMarkerR_ok (w : World) (ph at' : Int) (g1 g2 c1' c2' k0 : Nat) (gs bs : List Int) (h1 : Row w g1 gs) (h2 : Row w g2 bs) (hne : g1 ≠ g2) (hk : k0 + gs.length ≤ 1048577) (hgl : gs.length ≤ 1048576) (hbl : bs.length ≤ 1048576) :
    Calls Tryz.prog 13 #[.agg #[.int .i64 ph, .slice (some ⟨g1, 0, none⟩) gs.length c1', .slice (some ⟨g2, 0, none⟩) bs.length c2', .int .i64 at'], .int .i64 k0] w fun e w' => e = .returned (.int .i64 ((k0 : Int) + (gs.length : Int) + (bs.length : Int))) ∧ ∃ w1, w.grownBy w1 (some g1) ∧ w1.grownBy w' (some g2) := by
  have b0 := Cells.new w 29 #[.int .i64 ph, .slice (some ⟨g1, 0, none⟩) gs.length c1', .slice (some ⟨g2, 0, none⟩) bs.length c2', .int .i64 at']
  have k0' : Kept w (w.alloc (.cells #[.int .i64 ph, .slice (some ⟨g1, 0, none⟩) gs.length c1', .slice (some ⟨g2, 0, none⟩) bs.length c2', .int .i64 at'] 29)) := Kept.alloc (Below.refl _ _) _
  have l1 := h1.lt
  have l2 := h2.lt
  have hM := markFrom_ok _ g1 c1' k0 gs (h1.kept k0') hgl (by omega)
  have HR2 : Hid (Row (w.alloc (.cells #[.int .i64 ph, .slice (some ⟨g1, 0, none⟩) gs.length c1', .slice (some ⟨g2, 0, none⟩) bs.length c2', .int .i64 at'] 29)) g2 bs) := h2.kept k0'
  have HK0 : Hid (Kept w (w.alloc (.cells #[.int .i64 ph, .slice (some ⟨g1, 0, none⟩) gs.length c1', .slice (some ⟨g2, 0, none⟩) bs.length c2', .int .i64 at'] 29))) := k0'
  clear h1 h2 k0'
  go_enter Tryz.func13, Tryz.ntmps13
  have c1 := b0.cell 1
  go_wp2_with fail
  refine hM.mono ?_
  rintro e w1 ⟨rfl, hg1⟩
  have y1 := b0.grown hg1 (fun e => by cases e; omega)
  have c2 := y1.cell 2
  have hR3 := Row.grown HR2.out hg1 (fun e => by injection e with e; exact hne e.symm)
  have HG1 : Hid (w.grownBy w1 (some g1)) := kept_grown HK0.out hg1
  clear c1 hg1 y1
  have e1 : (k0 : Int) + (gs.length : Int) = (((k0 + gs.length : Nat)) : Int) := by omega
  rw [e1]
  clear e1
  go_wp2_with fail
  refine (markFrom_ok _ g2 c2' (k0 + gs.length) bs hR3 hbl (by omega)).mono ?_
  rintro e w2 ⟨rfl, hg2⟩
  have HG2 : Hid (w1.grownBy w2 (some g2)) := hg2
  clear c2 hg2
  go_wp2_with fail
  go_ret
  exact ⟨by simp, w1, HG1.out, HG2.out⟩
theorem heldMarker_ok (w : World) (ph at' : Int) (ga ba : Option Addr) (gc bc lg lb : Nat) (hG : Ints w ga (marksF 1 lg)) (hB : Ints w ba (marksF (lg + 1) lb)) (hgl : lg ≤ 2097152) (hbl : lb ≤ 2097152) :
    Calls Tryz.prog 14 #[.agg #[.int .i64 ph, .slice ga lg gc, .slice ba lb bc, .int .i64 at'], .int .i64 1] w fun e w' => e = .returned (.int .i64 ((lg : Int) + 1 + (lb : Int))) ∧ Kept w w' := by
  have b0 := Cells.new w 29 #[.int .i64 ph, .slice ga lg gc, .slice ba lb bc, .int .i64 at']
  have k0 : Kept w (w.alloc (.cells #[.int .i64 ph, .slice ga lg gc, .slice ba lb bc, .int .i64 at'] 29)) := Kept.alloc (Below.refl _ _) _
  have hG1 := heldF_ok _ ga gc 1 lg (hG.kept k0) hgl (by omega)
  have hB1 := heldF_ok _ ba bc (lg + 1) lb (hB.kept k0) hbl (by omega)
  clear hG hB
  have c1 := b0.cell 1
  have c2 := b0.cell 2
  go_enter Tryz.func14, Tryz.ntmps14
  go_wp2_with fail
  refine hG1.mono ?_
  rintro e w1 ⟨rfl, rfl⟩
  have e1 : ((1 : Nat) : Int) + (lg : Int) = (((lg + 1 : Nat)) : Int) := by omega
  rw [e1]
  have d1 : decide ((((lg + 1 : Nat)) : Int) < 0) = false := by rw [decide_eq_false_iff_not]; omega
  have d2 : decide ((((lg + 1 : Nat)) : Int) + (lb : Int) < 0) = false := by rw [decide_eq_false_iff_not]; omega
  go_wp2_with fail
  refine hB1.mono ?_
  rintro e w2 ⟨rfl, rfl⟩
  go_wp2_with fail
  go_ret
  exact ⟨by simp, k0⟩
end Go.Proofs.YtjgafhmgmddgdaaGreat
