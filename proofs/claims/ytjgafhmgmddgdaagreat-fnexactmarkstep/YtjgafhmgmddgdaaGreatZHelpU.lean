/-
  The law's helper markMarker of a marker whose grey places are seen from an offset on.
-/
import Derived.Test.YtjgafhmgmddgdaaGreatZHelpR
import Derived.Test.YtjgafhmgmddgdaaGreatGrpSd
namespace Go.Proofs.YtjgafhmgmddgdaaGreat
open Go.RowKit

theorem OwnG.keptT {W W' : World} {base : Nat} {v : Value} {l : List Int} (h : OwnG W base v l) (hk : Kept W W') : OwnG W' base v l := OwnG.kept (row := none) h hk.grown (fun k e => by cases e)
theorem OwnG.intsT {W : World} {base n c : Nat} {ao : Option Addr} {l : List Int} (h : OwnG W base (.slice ao n c) l) : Ints W ao l := by
  obtain ⟨so, sc, e, hI⟩ := h.ints
  cases e
  exact hI
theorem seen_set {cur : List Value} {off n k : Nat} {l : List Int} {x : Int} (h : (cur.drop off).take n = l.map (Value.int .i64)) : ((cur.set (off + k) (.int .i64 x)).drop off).take n = (l.set k x).map (Value.int .i64) := by
  rw [List.drop_set, if_neg (by omega), show off + k - off = k by omega, List.take_set, h, List.map_set]
theorem seen_cell {cur : Array Value} {off n k : Nat} {l : List Int} (h : (cur.toList.drop off).take n = l.map (Value.int .i64)) (hk : k < l.length) : cur[off + k]? = some (.int .i64 (hz l k)) := by
  have h1 : ((cur.toList.drop off).take n)[k]? = some (.int .i64 (hz l k)) := by
    rw [h, List.getElem?_map, List.getElem?_eq_getElem hk]
    simp [hz, List.getElem?_eq_getElem hk]
  rw [List.getElem?_take] at h1
  split at h1
  · rw [List.getElem?_drop] at h1
    simpa using h1
  · cases h1
set_option maxHeartbeats 2000000 in
theorem markSeenF_ok (w : World) (g off cap k0 : Nat) (cur : Array Value) (zs : List Int) (hR : Cells w g 3 cur) (hs : (cur.toList.drop off).take zs.length = zs.map (Value.int .i64)) (hl : zs.length ≤ 2097152) (hk0 : k0 ≤ 2097153) :
    Calls Tryz.prog 27 #[.slice (some ⟨g, off, none⟩) zs.length cap, .int .i64 k0] w fun e w' => e = .returned (.int .i64 ((k0 : Int) + (zs.length : Int))) ∧ Ints w' (some ⟨g, off, none⟩) (marksF k0 zs.length) ∧ w.grownBy w' (some g) := by
  have HR : Hid _ := hR
  have HS : Hid _ := hs
  clear hR hs
  go_enter Tryz.func27, Tryz.ntmps27
  go_wp2
  go_loopw [1, 5] (fun m i wr => ∃ (k : Nat) (cur : Array Value), i = .int .i64 k ∧ m = .int .i64 ((k0 : Int) + (k : Int)) ∧ k ≤ zs.length ∧ Hid (Cells wr g 3 cur) ∧ Hid ((cur.toList.drop off).take zs.length = (mixF k0 zs k).map (Value.int .i64)) ∧ Hid (w.grownBy wr (some g))) (fun _ i _ => zs.length - (intOf i).toNat)
  case atStart => exact ⟨0, cur, rfl, by simp, Nat.zero_le _, HR.out, by rw [Hid]; simpa [mixF, marksF] using HS.out, World.grownBy.refl _ _⟩
  case round =>
    clear HR HS
    obtain ⟨k, cur, rfl, rfl, hk, HC, HS, HG⟩ := hrel
    by_cases hlt : k < zs.length
    · have hcg := HC.out.cell (off + k)
      rw [seen_cell HS.out (by rw [mixF_len _ _ hk]; exact hlt)] at hcg
      have hfg := HC.out.frozen (off + k)
      have HC2 : Hid (Cells (wr.setCell ⟨g, off + k, none⟩ (.int .i64 ((k0 : Int) + (k : Int)))) g 3 (cur.setIfInBounds (off + k) (.int .i64 ((k0 : Int) + (k : Int))))) := HC.out.set _ _
      have HS2 : Hid (((cur.setIfInBounds (off + k) (.int .i64 ((k0 : Int) + (k : Int)))).toList.drop off).take zs.length = (mixF k0 zs (k + 1)).map (Value.int .i64)) := by
        rw [Hid, Array.toList_setIfInBounds, seen_set HS.out, mixF_succ k0 zs hlt]
      have HG2 : Hid (w.grownBy (wr.setCell ⟨g, off + k, none⟩ (.int .i64 ((k0 : Int) + (k : Int)))) (some g)) := grown_set (k := off + k) HG.out (.int .i64 ((k0 : Int) + (k : Int)))
      clear HC HS HG
      go_wp2
      go_roundw
      case rel => exact ⟨k + 1, _, by go_num, by go_num, by omega, HC2.out, HS2.out, HG2.out⟩
      case measure => simp [intOf]; omega
    · obtain rfl : k = zs.length := by omega
      go_wp2
      go_ret
      have h1 := HS.out
      rw [mixF_all] at h1
      refine ⟨rfl, ⟨fun z hz' => ?_, .inr ⟨g, off, rfl, fun j hj => ?_⟩⟩, HG.out⟩
      · unfold marksF at hz'
        obtain ⟨i, hi, rfl⟩ := List.mem_map.1 hz'
        have := List.mem_range.1 hi
        omega
      · rw [HC.out.cell (off + j)]
        exact seen_cell h1 hj
/-- A row of one's own, seen from an offset on, is marked. -/
theorem markOwnG_ok (w : World) (base k0 : Nat) (v : Value) (zs : List Int) (hO : OwnG w base v zs) (hl : zs.length ≤ 2097152) (hk0 : k0 ≤ 2097153) :
    Calls Tryz.prog 27 #[v, .int .i64 k0] w fun e w' => e = .returned (.int .i64 ((k0 : Int) + (zs.length : Int))) ∧ (∃ ao cap, v = .slice ao zs.length cap ∧ Ints w' ao (marksF k0 zs.length) ∧ ∀ x, ao = some x → v.ownBlock = some x.block) ∧ w.grownBy w' v.ownBlock := by
  obtain ⟨_, h⟩ := hO
  rcases h with ⟨rfl, e⟩ | ⟨g, off, cap, cur, rfl, _, h2, _, _, _, ht⟩
  · rw [List.map_eq_nil_iff] at e; subst e
    refine (markNilF_ok w none 0 k0).mono ?_
    rintro e w' ⟨rfl, rfl⟩
    exact ⟨by simp, ⟨none, 0, rfl, ⟨by simp [marksF], .inl rfl⟩, fun x e => by cases e⟩, World.grownBy.refl _ _⟩
  · rw [List.length_map] at ht ⊢
    refine (markSeenF_ok w g off cap k0 cur zs h2 ht hl hk0).mono ?_
    rintro e w' ⟨rfl, hI, hG⟩
    exact ⟨rfl, ⟨_, cap, rfl, hI, fun x e => by cases e; rfl⟩, hG⟩
/-- A marker of one's own is marked: its two rows hold their marks. -/
theorem markMarkerG_ok (w : World) (base : Nat) (ph at' : Int) (ga ba : Option Addr) (gc bc : Nat) (gs bs : List Int) (hg : OwnG w base (.slice ga gs.length gc) gs) (hb : OwnL w base (.slice ba bs.length bc) bs) (hn : ∀ j, (Value.slice ga gs.length gc).ownBlock = some j → (Value.slice ba bs.length bc).ownBlock ≠ some j) (hbase : base ≤ w.heap.size) (hgl : gs.length + 1 ≤ 2097153) (hbl : bs.length ≤ 2097152) :
    Calls Tryz.prog 13 #[.agg #[.int .i64 ph, .slice ga gs.length gc, .slice ba bs.length bc, .int .i64 at'], .int .i64 1] w fun e w' => e = .returned (.int .i64 ((gs.length : Int) + 1 + (bs.length : Int))) ∧ Ints w' ga (marksF 1 gs.length) ∧ Ints w' ba (marksF (gs.length + 1) bs.length) ∧ Below base w w' ∧ ∃ w1, w.grownBy w1 (Value.slice ga gs.length gc).ownBlock ∧ w1.grownBy w' (Value.slice ba bs.length bc).ownBlock := by
  have b0 := Cells.new w 29 #[.int .i64 ph, .slice ga gs.length gc, .slice ba bs.length bc, .int .i64 at']
  have k0 : Kept w (w.alloc (.cells #[.int .i64 ph, .slice ga gs.length gc, .slice ba bs.length bc, .int .i64 at'] 29)) := Kept.alloc (Below.refl _ _) _
  have HG : Hid (OwnG (w.alloc (.cells #[.int .i64 ph, .slice ga gs.length gc, .slice ba bs.length bc, .int .i64 at'] 29)) base (.slice ga gs.length gc) gs) := OwnG.kept (row := none) hg k0.grown (fun k e => by cases e)
  have HB : Hid (OwnL (w.alloc (.cells #[.int .i64 ph, .slice ga gs.length gc, .slice ba bs.length bc, .int .i64 at'] 29)) base (.slice ba bs.length bc) bs) := OwnL.kept (row := none) hb k0.grown (fun k e => by cases e)
  have hgw : ∀ j, (Value.slice ga gs.length gc).ownBlock = some j → base ≤ j ∧ j < w.heap.size := fun j hj => hg.lt j hj
  have hbw : ∀ j, (Value.slice ba bs.length bc).ownBlock = some j → base ≤ j ∧ j < w.heap.size := fun j hj => hb.2.lt j hj
  have HN : Hid _ := hn
  have HGW : Hid _ := hgw
  have HBW : Hid _ := hbw
  clear hg hb hn hgw hbw
  go_enter Tryz.func13, Tryz.ntmps13
  have c1 := b0.cell 1
  go_wp2_with fail
  refine (markOwnG_ok _ base 1 _ gs HG.out (by omega) (by omega)).mono ?_
  rintro e w1 ⟨rfl, ⟨_, _, ev, hI1, ha1⟩, hg1⟩
  cases ev
  have y1 := b0.grown hg1 (fun e => by have := (HGW.out _ e.symm).2; omega)
  have c2 := y1.cell 2
  have OB : Hid (OwnL w1 base (.slice ba bs.length bc) bs) := OwnL.kept HB.out hg1 (fun k e j hj ek => by subst ek; exact HN.out _ e hj)
  have HI1 : Hid (Ints w1 ga (marksF 1 gs.length)) := hI1
  have HA1 : Hid _ := ha1
  have HG1 : Hid _ := hg1
  clear c1 hI1 ha1 hg1 y1
  have e1 : ((1 : Nat) : Int) + (gs.length : Int) = (((gs.length + 1 : Nat)) : Int) := by omega
  rw [e1]
  go_wp2_with fail
  refine (markOwnF_ok _ base (gs.length + 1) _ bs OB.out hbl hgl).mono ?_
  rintro e w2 ⟨rfl, ⟨_, _, ev, hI2, ha2⟩, hg2⟩
  cases ev
  have HI2 : Hid (Ints w2 ba (marksF (gs.length + 1) bs.length)) := hI2
  have HG2 : Hid _ := hg2
  clear c2 hI2 ha2 hg2
  go_wp2_with fail
  go_ret
  refine ⟨by simp, ?_, HI2.out, ?_, w1, kept_grown k0 HG1.out, HG2.out⟩
  · exact Ints.far HI1.out HG2.out (fun x e eb => HN.out _ (HA1.out x e) eb)
  · have K1 : Below base w w1 := Below.grown (k0.mono hbase) HG1.out (by simp; omega) (fun k e => (HGW.out k e).1)
    exact Below.grown K1 HG2.out (Nat.le_trans hbase K1.size) (fun k e => (HBW.out k e).1)
end Go.Proofs.YtjgafhmgmddgdaaGreat
