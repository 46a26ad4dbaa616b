/-
  Where only one block, and new ones, have turned: the cursor.
  The contracts of the draws of chapter 7 (spec.l7DrawSome, l7Draw) and of DrawStart: weakly told.
  The contracts of the draws of chapter 10 (spec.DrawSlide, DrawMoved).
-/
import Derived.Test.YtaeeoehmocelhaaGreatDoorGrpI
import Derived.Test.YtaeeoehmocelhaaGreatDoorGrpC
import Derived.Test.YtaeeoehmocelhaaGreatDoorGrpM
import Derived.Test.YtaeeoehmocelhaaGreatDoorGrpB
namespace Go.Proofs.YtaeeoehmocelhaaGreatDoor
open Go.RowKit

theorem Cur.on {c : Nat} {a : Option Addr} {len cap : Nat} {z : Nat → Int} {w w' : World} {row : Option Nat} (h : Cur w c a len cap z) (hg : w.grownBy w' row) (hr : ∀ k, row = some k → c < k) : Cur w' c a len cap z :=
  h.upto hg.size (fun k hk => hg.block k (by have := h.lt; omega) (fun e => by have := hr k e.symm; omega))

end Go.Proofs.YtaeeoehmocelhaaGreatDoor
namespace Go.Proofs.YtaeeoehmocelhaaGreatDoor
open Go.RowKit

set_option maxHeartbeats 16000000 in
set_option maxRecDepth 100000 in
theorem l7DrawSome_ok (c : Nat) (a : Option Addr) (len cap : Nat) (z : Nat → Int) (w : World) (h : Cur w c a len cap z) (base : Nat) (ro : Option Addr) (rc : Nat) (rs : List Int) (hR : OwnI w base (.slice ro rs.length rc) rs) (hcb : c < base) (hl : rs.length ≤ 1000) :
    Calls Tryz.prog 55 #[.pointer (some ⟨c, 0, none⟩), .slice ro rs.length rc] w fun e w' => ∃ v l, e = .returned v ∧ OwnL w' w.heap.size v l ∧ l.length ≤ 4 ∧ Keeps c w w' ∧ Cur w' c a len cap z := by
  obtain ⟨i0, hi, hz0, hz1, hz2⟩ := info_parts infoI
  have hc0 := h.lt
  have h0 := h.alloc (.cells #[] 3)
  have k0 : Keeps c w (w.alloc (.cells #[] 3)) := (Keeps.refl _ _).alloc _
  have o0 : OwnL (w.alloc (.cells #[] 3)) w.heap.size (.slice (some ⟨w.heap.size, 0, none⟩) 0 0) [] := by
    refine ⟨by simp, ?_⟩
    have := World.ownsRow_made (base := w.heap.size) (e := 3) (size := 1) w #[] 0 (by simp) (by unfold maxLen; omega) (by simp)
    simpa using this
  go_enter Tryz.func55, Tryz.ntmps55
  go_wp2_with fail
  go_loopw [5, 6] (fun v i wr => ∃ (k : Nat) (l : List Int), i = .int .i64 k ∧ k ≤ 4 ∧ l.length = k ∧ OwnL wr w.heap.size v l ∧ Keeps c w wr ∧ Cur wr c a len cap z) (fun _ i _ => 5 - (intOf i).toNat)
  case atStart => exact ⟨0, [], rfl, by omega, rfl, o0, k0, h0⟩
  case round =>
    obtain ⟨k, l, rfl, hk, hlk, hO, hK, hC⟩ := hrel
    clear h0 k0 o0
    have HLK : Hid _ := hlk
    clear hlk
    go_wp2_with fail
    refine (l1Below_ok c a len cap z 5 (by omega) _ hC).mono ?_
    rintro e w1 ⟨x, rfl, hx0, hx1, hk1, hc1⟩
    have hx5 : x < 5 := hx1 (by omega)
    have hO1 := hO.turned hk1 (by omega)
    have hK1 := hK.trans hk1
    clear hx1 hO hK hC hk1
    by_cases hlt : (k : Int) < x
    · by_cases hr0 : rs.length = 0
      · have t0 : (rs.length : Int) ≤ 0 := by omega
        have HO : Hid _ := hO1
        clear hO1 hr0
        go_wp2
        go_ret
        first | exact ⟨_, l, rfl, HO.out, by have := HLK.out; omega, hK1, hc1⟩ | exact ⟨_, rfl, l, HO.out, by have := HLK.out; omega, hK1, hc1⟩
      · have t0 : (0 : Int) < (rs.length : Int) := by omega
        obtain ⟨va, vc, rfl, _⟩ := hO1.ints
        have hs1 := hK1.size
        have HO : Hid (OwnL w1 w.heap.size (.slice va l.length vc) l) := hO1
        clear hO1
        go_wp2_with fail
        refine (l1Below_ok c a len cap z (rs.length : Int) (by omega) _ hc1).mono ?_
        rintro e w2 ⟨y, rfl, hy0, hy1, hk2, hc2⟩
        have hy2 : y < (rs.length : Int) := hy1 t0
        obtain ⟨j, rfl⟩ : ∃ j : Nat, y = j := ⟨y.toNat, by omega⟩
        have hK2 := hK1.trans hk2
        have hs2 := hK2.size
        obtain ⟨ao', cp', e, hI, _⟩ := hR.keeps hK2 hcb
        cases e
        obtain ⟨bb, off, rfl, hcell⟩ := hI.at (k := j) (by omega)
        have hcj := hcell j (by omega)
        have hb := hI.bd j
        have hO2 := HO.out.turned hk2 (by omega)
        have HB : Hid (∀ z ∈ l ++ [hz rs j], -9223372036854775808 ≤ z ∧ z ≤ 9223372036854775807) := fun z hz => by
          rcases List.mem_append.1 hz with h | h
          · exact hO2.1 z h
          · rw [List.mem_singleton.1 h]; exact hb
        have hrow := hO2.2
        have hlt' := fun j (ej : (Value.slice va l.length vc).ownBlock = some j) => (hrow.lt j ej).1
        have hll : l.length ≤ 4 := by have := HLK.out; omega
        clear hy1 hcell hI HO
        go_wp2_with (first | (at_builtin; refine wpList_append_own _ rfl _ _ 24 rfl w.heap.size 3 i0 (.int .i64 0) 1 8 Tryz.underlying24 hi hz0 hz1 hz2 rfl (by decide) _ _ _ rfl (hrow.alloc _) ⟨w2.heap.size, 0, none⟩ 1 1 [.int .i64 (hz rs j)] rfl rfl (cell_one_new _ _ _) (by simp [Value.oneCell']) (by unfold maxLen; omega) (by omega) (by simp; omega) ?_; intro v' w3 hown' hgrow _))
        go_roundw
        case rel =>
          refine ⟨k + 1, l ++ [hz rs j], by go_num, by omega, by rw [List.length_append, HLK.out]; rfl, OwnL.snoc HB.out (by simpa using hown'), (hK2.alloc _).on hgrow hlt', (hc2.alloc _).on hgrow (fun k e => by have := hlt' k e; omega)⟩
        case measure => simp [intOf]; omega
    · have HO : Hid _ := hO1
      clear hO1
      go_wp2
      go_ret
      first | exact ⟨_, l, rfl, HO.out, by have := HLK.out; omega, hK1, hc1⟩ | exact ⟨_, rfl, l, HO.out, by have := HLK.out; omega, hK1, hc1⟩
set_option maxHeartbeats 16000000 in
set_option maxRecDepth 100000 in
theorem l7Draw_ok (a : Option Addr) (len cap : Nat) (z : Nat → Int) (w : World) (h : Src w.heap.size w a len z) :
    Calls Tryz.prog 28 #[.slice a len cap] w fun e w' => ∃ v zs rv rs, e = .returned (.tuple #[.agg #[v], rv]) ∧ OwnI w' w.heap.size v zs ∧ zs.length ≤ 200 ∧ OwnI w' w.heap.size rv rs ∧ rs.length ≤ 4 ∧ Kept w w' := by
  have b0 := Cells.new w 26 #[.slice none 0 0]
  have k0 : Kept w (w.alloc (.cells #[.slice none 0 0] 26)) := Kept.alloc (Below.refl _ _) _
  have h0 : Src (w.alloc (.cells #[.slice none 0 0] 26)).heap.size (w.alloc (.cells #[.slice none 0 0] 26)) a len z := h.below k0
  go_enter Tryz.func28, Tryz.ntmps28
  go_wp2_with fail
  refine (l1New_ok a len cap z _ h0).mono ?_
  rintro e w1 ⟨c, rfl, hc1, hk1, hC1⟩
  have b1 := b0.kept hk1
  have k1 := k0.trans hk1
  simp only [World.size_alloc] at hc1
  clear h0 hk1 b0 k0
  go_wp2_with fail
  refine (l3Draw_ok c a len cap z _ hC1).mono ?_
  rintro e w2 ⟨v, zs, rv, rs, rfl, hO, hl, hRt, hrl, hk2, hC2⟩
  have hO2 := hO
  have hRt2 := hRt
  have hcb := hC1.lt
  have hb1 := k1.size
  have b2 := b1.keeps hk2 (by omega)
  have k2 : Kept w w2 := Below.trans k1 (hk2.below (by omega) k1.size)
  obtain ⟨ao, cp, rfl, _⟩ := hO
  obtain ⟨ro, rp, rfl, _⟩ := hRt
  have ka : Kept w2 (w2.alloc (.cells #[.slice ao zs.length cp] 26)) := Kept.alloc (Below.refl _ _) _
  have x4 := Cells.new w2 26 #[.slice ao zs.length cp]
  have hC5 := hC2.kept ka
  have b5 := b2.kept ka
  have hO5 := hO2.kept ka
  have hR5 := hRt2.kept ka
  have k5 := k2.trans ka
  have hcl := hC2.lt
  have lx := x4.lt
  have hs2 := hk2.size
  obtain ⟨B, hB⟩ : ∃ B, w2.heap.size = B := ⟨_, rfl⟩
  go_wp2_with fail
  obtain ⟨w5, hw5⟩ : ∃ w5, w2.alloc (.cells #[.slice ao zs.length cp] 26) = w5 := ⟨_, rfl⟩
  rw [hw5] at x4 hC5 b5 hO5 k5 lx hR5
  rw [hB] at x4 hcl lx hs2
  rw [hw5]
  clear hB hw5 ka hk2 hC1 hC2 hO2 b1 b2 k1 k2 hRt2
  have Cd := hC5.kept (Below.refl _ w5).drew
  have xd := x4.kept (Below.refl _ w5).drew
  have bd := b5.kept (Below.refl _ w5).drew
  have Od := hO5.kept (Below.refl _ w5).drew
  have Rd := hR5.kept (Below.refl _ w5).drew
  have kd : Kept w w5.drew := k5.drew
  have q4 := x4.cell 0
  have hbw : w.heap.size ≤ w5.heap.size := k5.size
  have hA := l7DrawSome_ok c a len cap z _ Cd w1.heap.size ro rp rs Rd hcb (by omega)
  go_region_with (first | (go_at_call 55; refine hA.mono ?_; rintro e wz ⟨u, ls, rfl, hu, hul, hkz, Cz⟩; have x6 := xd.keeps hkz (by omega); have q6 := x6.cell 0; have b6 := bd.keeps hkz (by omega); have e6 := b6.cell 0; have f6 := b6.frozen 0))
  all_goals (
    have O6 := Od.keeps hkz hcb
    have k6 : Kept w wz := Below.trans kd (hkz.below (by omega) kd.size)
    have U6 := (hu.ownI).base (base' := w.heap.size) hbw
    have q := (b6.set1 (.slice ao zs.length cp)).cell 0
    obtain ⟨ua, uc, eu, _⟩ := id U6
    subst eu
    go_wp2_with fail
    refine bodyPost_ret (v := .tuple #[.agg #[.slice ao zs.length cp], .slice ua ls.length uc]) (by simp [results, Tryz.results28, go_sem, q]) rfl ⟨_, zs, _, ls, rfl, ?_, hl, ?_, hul, k6.set (by simp) _⟩
    · exact (O6.other b6 (by intro j n; cases j <;> simp) _).base hb1
    · exact U6.other b6 (by intro j n; cases j <;> simp) _)
end Go.Proofs.YtaeeoehmocelhaaGreatDoor
namespace Go.Proofs.YtaeeoehmocelhaaGreatDoor
open Go.RowKit

set_option maxHeartbeats 8000000 in
set_option maxRecDepth 100000 in
theorem DrawSlide_ok (a : Option Addr) (len cap : Nat) (z : Nat → Int) (w : World) (h : Src w.heap.size w a len z) :
    Calls Tryz.prog 6 #[.slice a len cap] w fun e w' => ∃ v zs rv rs, e = .returned (.tuple #[.agg #[v], rv]) ∧ OwnI w' w.heap.size v zs ∧ zs.length ≤ 200 ∧ OwnI w' w.heap.size rv rs ∧ rs.length ≤ 4 ∧ Kept w w' := by
  have b0 := Cells.new w 26 #[.slice none 0 0]
  have k0 : Kept w (w.alloc (.cells #[.slice none 0 0] 26)) := Kept.alloc (Below.refl _ _) _
  have hD := l7Draw_ok a len cap z _ (h.below k0)
  go_enter Tryz.func6, Tryz.ntmps6
  go_wp2_with fail
  refine hD.mono ?_
  rintro e w1 ⟨v, zs, rv, rs, rfl, hO, hl, hR, hrl, hk1⟩
  have b1 := b0.kept hk1
  have k1 := k0.trans hk1
  have c1 := b1.cell 0
  have f1 := b1.frozen 0
  have l1 := b1.lt
  have hO1 := hO.base (base' := w.heap.size) (by simp)
  have hR1 := hR.base (base' := w.heap.size) (by simp)
  obtain ⟨ao, cp, rfl, _⟩ := hO
  obtain ⟨ro, rp, rfl, _⟩ := hR
  go_wp2_with fail
  have q := ((b1.set1 (.slice ao zs.length cp)).alloc (.cells #[.slice ao zs.length cp] 26)).cell 0
  refine bodyPost_ret (v := .tuple #[.agg #[.slice ao zs.length cp], .slice ro rs.length rp]) (by simp [results, Tryz.results6, go_sem, q]) rfl ⟨_, zs, _, rs, rfl, ?_, hl, ?_, hrl, (k1.set (by simp) _).alloc _⟩
  · exact (hO1.other b1 (by intro j n; cases j <;> simp) _).kept (Kept.alloc (Below.refl _ _) _)
  · exact (hR1.other b1 (by intro j n; cases j <;> simp) _).kept (Kept.alloc (Below.refl _ _) _)
set_option maxHeartbeats 16000000 in
set_option maxRecDepth 100000 in
theorem DrawMoved_ok (a : Option Addr) (len cap : Nat) (z : Nat → Int) (w : World) (h : Src w.heap.size w a len z) :
    Calls Tryz.prog 12 #[.slice a len cap] w fun e w' => ∃ v zs x, e = .returned (.tuple #[.agg #[v], .int .i64 x]) ∧ OwnI w' w.heap.size v zs ∧ zs.length ≤ 200 ∧ InB x ∧ Kept w w' := by
  have b0 := Cells.new w 26 #[.slice none 0 0]
  have k0 : Kept w (w.alloc (.cells #[.slice none 0 0] 26)) := Kept.alloc (Below.refl _ _) _
  have h0 : Src (w.alloc (.cells #[.slice none 0 0] 26)).heap.size (w.alloc (.cells #[.slice none 0 0] 26)) a len z := h.below k0
  go_enter Tryz.func12, Tryz.ntmps12
  go_wp2_with fail
  refine (l1New_ok a len cap z _ h0).mono ?_
  rintro e w1 ⟨c, rfl, hc1, hk1, hC1⟩
  have b1 := b0.kept hk1
  have k1 := k0.trans hk1
  simp only [World.size_alloc] at hc1
  clear h0 hk1 b0 k0
  go_wp2_with fail
  refine (l3Draw_ok c a len cap z _ hC1).mono ?_
  rintro e w2 ⟨v, zs, rv, rs, rfl, hO, hl, hRt, hrl, hk2, hC2⟩
  have hO2 := hO
  have hRt2 := hRt
  have hcb := hC1.lt
  have hb1 := k1.size
  have b2 := b1.keeps hk2 (by omega)
  have k2 : Kept w w2 := Below.trans k1 (hk2.below (by omega) k1.size)
  obtain ⟨ao, cp, rfl, _⟩ := hO
  obtain ⟨ro, rp, rfl, _⟩ := hRt
  have ka : Kept w2 (w2.alloc (.cells #[.slice ao zs.length cp] 26)) := Kept.alloc (Below.refl _ _) _
  have x4 := Cells.new w2 26 #[.slice ao zs.length cp]
  have hC5 := hC2.kept ka
  have b5 := b2.kept ka
  have hO5 := hO2.kept ka
  have hR5 := hRt2.kept ka
  have k5 := k2.trans ka
  have hcl := hC2.lt
  have lx := x4.lt
  have hs2 := hk2.size
  obtain ⟨B, hB⟩ : ∃ B, w2.heap.size = B := ⟨_, rfl⟩
  go_wp2_with fail
  obtain ⟨w5, hw5⟩ : ∃ w5, w2.alloc (.cells #[.slice ao zs.length cp] 26) = w5 := ⟨_, rfl⟩
  rw [hw5] at x4 hC5 b5 hO5 k5 lx hR5
  rw [hB] at x4 hcl lx hs2
  rw [hw5]
  clear hB hw5 ka hk2 hC1 hC2 hO2 b1 b2 k1 k2 hRt2
  have Cd := hC5.kept (Below.refl _ w5).drew
  have xd := x4.kept (Below.refl _ w5).drew
  have bd := b5.kept (Below.refl _ w5).drew
  have Od := hO5.kept (Below.refl _ w5).drew
  have Rd := hR5.kept (Below.refl _ w5).drew
  have kd : Kept w w5.drew := k5.drew
  have q4 := x4.cell 0
  have hbw : w.heap.size ≤ w5.heap.size := k5.size
  have hA := l3DrawValue_ok c a len cap z _ Cd w1.heap.size ro rp rs Rd hcb (by omega)
  go_region_with (first | (go_at_call 47; refine hA.mono ?_; rintro e wz ⟨u, rfl, hu, hkz, Cz⟩; have x6 := xd.keeps hkz (by omega); have q6 := x6.cell 0; have b6 := bd.keeps hkz (by omega); have e6 := b6.cell 0; have f6 := b6.frozen 0))
  all_goals (
    have O6 := Od.keeps hkz hcb
    have k6 : Kept w wz := Below.trans kd (hkz.below (by omega) kd.size)
    have q := (b6.set1 (.slice ao zs.length cp)).cell 0
    go_wp2_with fail
    refine bodyPost_ret (v := .tuple #[.agg #[.slice ao zs.length cp], .int .i64 u]) (by simp [results, Tryz.results12, go_sem, q]) rfl ⟨_, zs, u, rfl, ?_, hl, hu, k6.set (by simp) _⟩
    exact (O6.other b6 (by intro j n; cases j <;> simp) _).base hb1)
end Go.Proofs.YtaeeoehmocelhaaGreatDoor
