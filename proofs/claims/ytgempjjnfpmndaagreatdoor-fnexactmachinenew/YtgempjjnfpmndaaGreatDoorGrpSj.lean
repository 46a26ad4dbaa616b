/-
  The contract of chapter 3's model of a block's shape, for functions.
  The contract of chapter 3's model of a block's shape, for cells.
  The contract of chapter 3's model of a block's shape, for objects.
  The contract of chapter 3's model of a block's shape, for scopes, and for every kind.
-/
import Derived.Test.YtgempjjnfpmndaaGreatDoorGrpSf
import Derived.Test.YtgempjjnfpmndaaGreatDoorSeq
namespace Go.Proofs.YtgempjjnfpmndaaGreatDoor
open Go.RowKit
attribute [local go_sem] Plain.and7

def objR (zs : List Int) (a s : Nat) : Bool := decide (3 ≤ s ∧ s ≤ 4) && (decide (hz zs (a + 1) = 1) || (decide (hz zs (a + 1) % 8 = 5) && leadsR zs (hz zs (a + 1)) 0)) && nextR zs (hz zs (a + 2)) 3 && zeroR zs (a + 3) (s - 3)
def cellR (zs : List Int) (a s : Nat) : Bool := decide (4 ≤ s ∧ s ≤ 5) && decide (hz zs (a + 1) % 8 = 4) && leadsR zs (hz zs (a + 1)) 0 && plainR zs (hz zs (a + 2)) && nextR zs (hz zs (a + 3)) 3 && zeroR zs (a + 4) (s - 4)
def funR (zs : List Int) (a s : Nat) : Bool := decide (3 ≤ s ∧ s ≤ 4) && decide (0 ≤ hz zs (a + 1) ∧ hz zs (a + 1) ≤ 99) && decide (hz zs (a + 2) % 8 = 7) && leadsR zs (hz zs (a + 2)) 5 && zeroR zs (a + 3) (s - 3)
def scopeR (zs : List Int) (a s : Nat) : Bool := nextR zs (hz zs (a + 1)) 5 && allR (fun i => plainR zs (hz zs (a + 2 + i))) (s - 2)

set_option maxHeartbeats 16000000 in
set_option maxRecDepth 100000 in
theorem l3Shape_fun (w : World) (ao : Option Addr) (cap : Nat) (zs : List Int) (a s : Nat) (hI : Ints w ao zs) (hl : zs.length ≤ 1048576) (hok : slabOk zs = true) (hle : a + s ≤ zs.length) (hs : 2 ≤ s) (hz8 : hz zs a / 8 = (s : Int)) (hz9 : hz zs a % 8 = 4) :
    Calls Tryz.prog 158 #[.agg #[.slice ao zs.length cap], .int .i64 a] w fun e w' => e = .returned (.bool (funR zs a s)) ∧ Kept w w' := by
  have b0 := Cells.new w 39 #[.slice ao zs.length cap]
  have k0 : Kept w (w.alloc (.cells #[.slice ao zs.length cap] 39)).drew := (Kept.alloc (Below.refl _ _) _).drew
  have c0 := b0.cell 0
  obtain ⟨bb, off, rfl, hc⟩ := hI.at (k := 0) (by omega)
  have hck := hc a (by omega)
  have hbl : bb < w.heap.size := World.block_lt_of_cell? _ _ hck
  have hltI : (a : Int) < (zs.length : Int) := by omega
  have x0 : ∀ u, Kept (w.alloc (.cells #[.slice (some ⟨bb, off, none⟩) zs.length cap] 39)).drew u → u.cell? ⟨w.heap.size, 0, none⟩ = some (.slice (some ⟨bb, off, none⟩) zs.length cap) := fun u hu => ((b0.kept (Below.refl _ _).drew).kept hu).cell 0
  have hIu : ∀ u, Kept (w.alloc (.cells #[.slice (some ⟨bb, off, none⟩) zs.length cap] 39)).drew u → Ints u (some ⟨bb, off, none⟩) zs := fun u hu => hI.kept (k0.trans hu)
  obtain ⟨v1, hv1⟩ : ∃ v, hz zs (a + 1) = v := ⟨_, rfl⟩
  have hb1 := hI.bd (a + 1)
  rw [hv1] at hb1
  obtain ⟨v2, hv2⟩ : ∃ v, hz zs (a + 2) = v := ⟨_, rfl⟩
  have hb2 := hI.bd (a + 2)
  rw [hv2] at hb2
  by_cases hsz : 3 ≤ s ∧ s ≤ 4
  · have y1 : ∀ u, Kept (w.alloc (.cells #[.slice (some ⟨bb, off, none⟩) zs.length cap] 39)).drew u → u.cell? ⟨bb, off + (a + 1), none⟩ = some (.int .i64 v1) := fun u hu => by rw [← hv1]; exact ((k0.trans hu).cell (p := ⟨bb, off + (a + 1), none⟩) hbl).trans (hc (a + 1) (by omega))
    have t1 : ((a : Int) + 1).toNat = a + 1 := by omega
    have p1 : (0 : Int) ≤ (a : Int) + 1 := by omega
    have q1 : (a : Int) + 1 < (zs.length : Int) := by omega
    have r1 : IntKind.i64.wrap ((a : Int) + 1) = (a : Int) + 1 := IntWalk.i64_in _ ⟨by omega, by omega⟩
    have y2 : ∀ u, Kept (w.alloc (.cells #[.slice (some ⟨bb, off, none⟩) zs.length cap] 39)).drew u → u.cell? ⟨bb, off + (a + 2), none⟩ = some (.int .i64 v2) := fun u hu => by rw [← hv2]; exact ((k0.trans hu).cell (p := ⟨bb, off + (a + 2), none⟩) hbl).trans (hc (a + 2) (by omega))
    have t2 : ((a : Int) + 2).toNat = a + 2 := by omega
    have p2 : (0 : Int) ≤ (a : Int) + 2 := by omega
    have q2 : (a : Int) + 2 < (zs.length : Int) := by omega
    have r2 : IntKind.i64.wrap ((a : Int) + 2) = (a : Int) + 2 := IntWalk.i64_in _ ⟨by omega, by omega⟩
    have r3 : IntKind.i64.wrap ((a : Int) + 3) = (a : Int) + 3 := IntWalk.i64_in _ ⟨by omega, by omega⟩
    have rs : IntKind.i64.wrap ((a : Int) + (s : Int)) = (a : Int) + (s : Int) := IntWalk.i64_in _ ⟨by omega, by omega⟩
    have hZ : Hid (∀ u, Kept (w.alloc (.cells #[.slice (some ⟨bb, off, none⟩) zs.length cap] 39)).drew u → Calls Tryz.prog 190 #[.agg #[.slice (some ⟨bb, off, none⟩) zs.length cap], .int .i64 ((a : Int) + 3), .int .i64 ((a : Int) + (s : Int))] u fun e w' => e = .returned (.bool (zeroR zs (a + 3) (s - 3))) ∧ Kept u w') := fun u hu => l3Zero_ok u (some ⟨bb, off, none⟩) cap zs (a + 3) (s - 3) ((a : Int) + 3) ((a : Int) + (s : Int)) (by omega) (by omega) (hIu u hu) hl (by omega)
    have hIn : Hid (∀ u, Kept (w.alloc (.cells #[.slice (some ⟨bb, off, none⟩) zs.length cap] 39)).drew u → Calls Tryz.prog 71 #[.int .i64 s, .int .i64 3, .int .i64 4] u fun e w' => e = .returned (.bool true) ∧ Kept u w') := fun u hu => calls_kept (l1In_yes _ _ _ _ (by omega) (by omega))
    have hK2 : Hid (∀ u, Kept (w.alloc (.cells #[.slice (some ⟨bb, off, none⟩) zs.length cap] 39)).drew u → Calls Tryz.prog 72 #[.int .i64 v2] u fun e w' => e = .returned (.int .i64 (v2 % 8)) ∧ Kept u w') := fun u hu => calls_kept (spec_Kind_ok _ _)
    by_cases g0 : 0 ≤ v1 ∧ v1 ≤ 99
    · have ga := g0.1
      have gb := g0.2
      have hJ : Hid (∀ u, Kept (w.alloc (.cells #[.slice (some ⟨bb, off, none⟩) zs.length cap] 39)).drew u → Calls Tryz.prog 71 #[.int .i64 v1, .int .i64 0, .int .i64 99] u fun e w' => e = .returned (.bool true) ∧ Kept u w') := fun u hu => calls_kept (l1In_yes _ _ _ _ ga gb)
      by_cases g1 : v2 % 8 = 7
      · have e7 : (v2 % 8 == 7) = true := by simp [g1]
        have hC2 := fun (u : World) (hu : Kept (w.alloc (.cells #[.slice (some ⟨bb, off, none⟩) zs.length cap] 39)).drew u) => l3Leads_ok u _ cap zs v2 5 (hIu u hu) hl hok hb2.1 hb2.2 (by omega)
        cases g2 : leadsR zs v2 5 with
        | false =>
          have HR : Hid (funR zs a s = false) := by simp [Hid, funR, hsz, hv1, hv2, g0, g1, g2]
          have hD2 : Hid (∀ u, Kept (w.alloc (.cells #[.slice (some ⟨bb, off, none⟩) zs.length cap] 39)).drew u → Calls Tryz.prog 119 #[.agg #[.slice (some ⟨bb, off, none⟩) zs.length cap], .int .i64 v2, .int .i64 5] u fun e w' => e = .returned (.bool false) ∧ Kept u w') := fun u hu => by have := hC2 u hu; rw [g2] at this; exact this
          clear hc hok hI hIu hv1 hb1 hv2 hb2 hsz g2 hC2 g0 g1
          go_enter Tryz.func158, Tryz.ntmps158
          go_wp2_with (first | (go_at_call 29; refine (l2Size_ok _ _).mono ?_; rintro e wx ⟨rfl, rfl⟩) | (go_at_call 121; refine (l2Kind_ok _ _).mono ?_; rintro e wx ⟨rfl, rfl⟩))
          refine wp_region_seqL (by kernel_rfl) (by kernel_rfl) ?_
          repeat (first
            | (refine SeqL.skip (by rfl) ?_; simp only [Act.put, List.setIfInBounds_toArray, List.set_cons_zero, List.set_cons_succ])
            | (refine SeqL.pure ?_ (by rfl) ?_ ?_; rotate_left; (focus (intro u hu; have x0' := x0 u hu; have y1' := y1 u hu; have y2' := y2 u hu; go_simp; first | done | exact rfl)); simp only [Act.put, List.setIfInBounds_toArray, List.set_cons_zero, List.set_cons_succ])
            | (refine SeqL.call _ _ _ (by rfl) ?_ hIn.out ?_; (focus (intro u; go_simp; done)); simp only [Act.put, List.setIfInBounds_toArray, List.set_cons_zero, List.set_cons_succ])
            | (refine SeqL.call _ _ _ (by rfl) ?_ hZ.out ?_; (focus (intro u; go_simp; done)); simp only [Act.put, List.setIfInBounds_toArray, List.set_cons_zero, List.set_cons_succ])
            | (refine SeqL.call _ _ _ (by rfl) ?_ hK2.out ?_; (focus (intro u; go_simp; done)); simp only [Act.put, List.setIfInBounds_toArray, List.set_cons_zero, List.set_cons_succ])
            | (refine SeqL.call _ _ _ (by rfl) ?_ hJ.out ?_; (focus (intro u; go_simp; done)); simp only [Act.put, List.setIfInBounds_toArray, List.set_cons_zero, List.set_cons_succ])
            | (refine SeqL.call _ _ _ (by rfl) ?_ hD2.out ?_; (focus (intro u; go_simp; done)); simp only [Act.put, List.setIfInBounds_toArray, List.set_cons_zero, List.set_cons_succ]))
          refine SeqL.nil ?_
          intro u hu
          go_wp2
          go_ret
          exact ⟨by rw [HR.out]; rfl, k0.trans hu⟩
        | true =>
          have hD2 : Hid (∀ u, Kept (w.alloc (.cells #[.slice (some ⟨bb, off, none⟩) zs.length cap] 39)).drew u → Calls Tryz.prog 119 #[.agg #[.slice (some ⟨bb, off, none⟩) zs.length cap], .int .i64 v2, .int .i64 5] u fun e w' => e = .returned (.bool true) ∧ Kept u w') := fun u hu => by have := hC2 u hu; rw [g2] at this; exact this
          have HR : Hid (funR zs a s = zeroR zs (a + 3) (s - 3)) := by simp [Hid, funR, hsz, hv1, hv2, g0, g1, g2]
          clear hc hok hI hIu hv1 hb1 hv2 hb2 g0 g1 g2 hC2 hsz
          go_enter Tryz.func158, Tryz.ntmps158
          go_wp2_with (first | (go_at_call 29; refine (l2Size_ok _ _).mono ?_; rintro e wx ⟨rfl, rfl⟩) | (go_at_call 121; refine (l2Kind_ok _ _).mono ?_; rintro e wx ⟨rfl, rfl⟩))
          refine wp_region_seqL (by kernel_rfl) (by kernel_rfl) ?_
          repeat (first
            | (refine SeqL.skip (by rfl) ?_; simp only [Act.put, List.setIfInBounds_toArray, List.set_cons_zero, List.set_cons_succ])
            | (refine SeqL.pure ?_ (by rfl) ?_ ?_; rotate_left; (focus (intro u hu; have x0' := x0 u hu; have y1' := y1 u hu; have y2' := y2 u hu; go_simp; first | done | exact rfl)); simp only [Act.put, List.setIfInBounds_toArray, List.set_cons_zero, List.set_cons_succ])
            | (refine SeqL.call _ _ _ (by rfl) ?_ hIn.out ?_; (focus (intro u; go_simp; done)); simp only [Act.put, List.setIfInBounds_toArray, List.set_cons_zero, List.set_cons_succ])
            | (refine SeqL.call _ _ _ (by rfl) ?_ hZ.out ?_; (focus (intro u; go_simp; done)); simp only [Act.put, List.setIfInBounds_toArray, List.set_cons_zero, List.set_cons_succ])
            | (refine SeqL.call _ _ _ (by rfl) ?_ hK2.out ?_; (focus (intro u; go_simp; done)); simp only [Act.put, List.setIfInBounds_toArray, List.set_cons_zero, List.set_cons_succ])
            | (refine SeqL.call _ _ _ (by rfl) ?_ hJ.out ?_; (focus (intro u; go_simp; done)); simp only [Act.put, List.setIfInBounds_toArray, List.set_cons_zero, List.set_cons_succ])
            | (refine SeqL.call _ _ _ (by rfl) ?_ hD2.out ?_; (focus (intro u; go_simp; done)); simp only [Act.put, List.setIfInBounds_toArray, List.set_cons_zero, List.set_cons_succ]))
          refine SeqL.nil ?_
          intro u hu
          go_wp2
          go_ret
          exact ⟨by rw [HR.out]; rfl, k0.trans hu⟩
      · have HR : Hid (funR zs a s = false) := by simp [Hid, funR, hsz, hv1, hv2, g0, g1]
        have e7 : (v2 % 8 == 7) = false := by simpa using g1
        clear hc hok hI hIu hv1 hb1 hv2 hb2 hsz g0 g1
        go_enter Tryz.func158, Tryz.ntmps158
        go_wp2_with (first | (go_at_call 29; refine (l2Size_ok _ _).mono ?_; rintro e wx ⟨rfl, rfl⟩) | (go_at_call 121; refine (l2Kind_ok _ _).mono ?_; rintro e wx ⟨rfl, rfl⟩))
        refine wp_region_seqL (by kernel_rfl) (by kernel_rfl) ?_
        repeat (first
          | (refine SeqL.skip (by rfl) ?_; simp only [Act.put, List.setIfInBounds_toArray, List.set_cons_zero, List.set_cons_succ])
          | (refine SeqL.pure ?_ (by rfl) ?_ ?_; rotate_left; (focus (intro u hu; have x0' := x0 u hu; have y1' := y1 u hu; have y2' := y2 u hu; go_simp; first | done | exact rfl)); simp only [Act.put, List.setIfInBounds_toArray, List.set_cons_zero, List.set_cons_succ])
          | (refine SeqL.call _ _ _ (by rfl) ?_ hIn.out ?_; (focus (intro u; go_simp; done)); simp only [Act.put, List.setIfInBounds_toArray, List.set_cons_zero, List.set_cons_succ])
          | (refine SeqL.call _ _ _ (by rfl) ?_ hZ.out ?_; (focus (intro u; go_simp; done)); simp only [Act.put, List.setIfInBounds_toArray, List.set_cons_zero, List.set_cons_succ])
          | (refine SeqL.call _ _ _ (by rfl) ?_ hK2.out ?_; (focus (intro u; go_simp; done)); simp only [Act.put, List.setIfInBounds_toArray, List.set_cons_zero, List.set_cons_succ])
          | (refine SeqL.call _ _ _ (by rfl) ?_ hJ.out ?_; (focus (intro u; go_simp; done)); simp only [Act.put, List.setIfInBounds_toArray, List.set_cons_zero, List.set_cons_succ]))
        refine SeqL.nil ?_
        intro u hu
        go_wp2
        go_ret
        exact ⟨by rw [HR.out]; rfl, k0.trans hu⟩
    · have HR : Hid (funR zs a s = false) := by simp [Hid, funR, hsz, hv1, hv2, g0]
      have gn : v1 < 0 ∨ 99 < v1 := by omega
      have hJ : Hid (∀ u, Kept (w.alloc (.cells #[.slice (some ⟨bb, off, none⟩) zs.length cap] 39)).drew u → Calls Tryz.prog 71 #[.int .i64 v1, .int .i64 0, .int .i64 99] u fun e w' => e = .returned (.bool false) ∧ Kept u w') := fun u hu => calls_kept (l1In_no _ _ _ _ gn)
      clear hc hok hI hIu hv1 hb1 hv2 hb2 hsz g0
      go_enter Tryz.func158, Tryz.ntmps158
      go_wp2_with (first | (go_at_call 29; refine (l2Size_ok _ _).mono ?_; rintro e wx ⟨rfl, rfl⟩) | (go_at_call 121; refine (l2Kind_ok _ _).mono ?_; rintro e wx ⟨rfl, rfl⟩))
      refine wp_region_seqL (by kernel_rfl) (by kernel_rfl) ?_
      repeat (first
        | (refine SeqL.skip (by rfl) ?_; simp only [Act.put, List.setIfInBounds_toArray, List.set_cons_zero, List.set_cons_succ])
        | (refine SeqL.pure ?_ (by rfl) ?_ ?_; rotate_left; (focus (intro u hu; have x0' := x0 u hu; have y1' := y1 u hu; have y2' := y2 u hu; go_simp; first | done | exact rfl)); simp only [Act.put, List.setIfInBounds_toArray, List.set_cons_zero, List.set_cons_succ])
        | (refine SeqL.call _ _ _ (by rfl) ?_ hIn.out ?_; (focus (intro u; go_simp; done)); simp only [Act.put, List.setIfInBounds_toArray, List.set_cons_zero, List.set_cons_succ])
        | (refine SeqL.call _ _ _ (by rfl) ?_ hZ.out ?_; (focus (intro u; go_simp; done)); simp only [Act.put, List.setIfInBounds_toArray, List.set_cons_zero, List.set_cons_succ])
        | (refine SeqL.call _ _ _ (by rfl) ?_ hK2.out ?_; (focus (intro u; go_simp; done)); simp only [Act.put, List.setIfInBounds_toArray, List.set_cons_zero, List.set_cons_succ])
        | (refine SeqL.call _ _ _ (by rfl) ?_ hJ.out ?_; (focus (intro u; go_simp; done)); simp only [Act.put, List.setIfInBounds_toArray, List.set_cons_zero, List.set_cons_succ]))
      refine SeqL.nil ?_
      intro u hu
      go_wp2
      go_ret
      exact ⟨by rw [HR.out]; rfl, k0.trans hu⟩
  · have HR : Hid (funR zs a s = false) := by simp [Hid, funR, hsz]
    have hIn : Hid (∀ u, Kept (w.alloc (.cells #[.slice (some ⟨bb, off, none⟩) zs.length cap] 39)).drew u → Calls Tryz.prog 71 #[.int .i64 s, .int .i64 3, .int .i64 4] u fun e w' => e = .returned (.bool false) ∧ Kept u w') := fun u hu => calls_kept (l1In_no _ _ _ _ (by omega))
    clear hc hok hI hIu hv1 hb1 hv2 hb2 hsz
    go_enter Tryz.func158, Tryz.ntmps158
    go_wp2_with (first | (go_at_call 29; refine (l2Size_ok _ _).mono ?_; rintro e wx ⟨rfl, rfl⟩) | (go_at_call 121; refine (l2Kind_ok _ _).mono ?_; rintro e wx ⟨rfl, rfl⟩))
    refine wp_region_seqL (by kernel_rfl) (by kernel_rfl) ?_
    repeat (first
      | (refine SeqL.skip (by rfl) ?_; simp only [Act.put, List.setIfInBounds_toArray, List.set_cons_zero, List.set_cons_succ])
      | (refine SeqL.pure ?_ (by rfl) ?_ ?_; rotate_left; (focus (intro u hu; skip; go_simp; first | done | exact rfl)); simp only [Act.put, List.setIfInBounds_toArray, List.set_cons_zero, List.set_cons_succ])
      | (refine SeqL.call _ _ _ (by rfl) ?_ hIn.out ?_; (focus (intro u; go_simp; done)); simp only [Act.put, List.setIfInBounds_toArray, List.set_cons_zero, List.set_cons_succ]))
    refine SeqL.nil ?_
    intro u hu
    go_wp2
    go_ret
    exact ⟨by rw [HR.out]; rfl, k0.trans hu⟩
end Go.Proofs.YtgempjjnfpmndaaGreatDoor
namespace Go.Proofs.YtgempjjnfpmndaaGreatDoor
open Go.RowKit
attribute [local go_sem] Plain.and7

set_option maxHeartbeats 16000000 in
set_option maxRecDepth 100000 in
theorem l3Shape_cell (w : World) (ao : Option Addr) (cap : Nat) (zs : List Int) (a s : Nat) (hI : Ints w ao zs) (hl : zs.length ≤ 1048576) (hok : slabOk zs = true) (hle : a + s ≤ zs.length) (hs : 2 ≤ s) (hz8 : hz zs a / 8 = (s : Int)) (hz9 : hz zs a % 8 = 3) :
    Calls Tryz.prog 158 #[.agg #[.slice ao zs.length cap], .int .i64 a] w fun e w' => e = .returned (.bool (cellR zs a s)) ∧ Kept w w' := by
  have b0 := Cells.new w 39 #[.slice ao zs.length cap]
  have k0 : Kept w (w.alloc (.cells #[.slice ao zs.length cap] 39)).drew := (Kept.alloc (Below.refl _ _) _).drew
  have c0 := b0.cell 0
  obtain ⟨bb, off, rfl, hc⟩ := hI.at (k := 0) (by omega)
  have hck := hc a (by omega)
  have hbl : bb < w.heap.size := World.block_lt_of_cell? _ _ hck
  have hltI : (a : Int) < (zs.length : Int) := by omega
  have x0 : ∀ u, Kept (w.alloc (.cells #[.slice (some ⟨bb, off, none⟩) zs.length cap] 39)).drew u → u.cell? ⟨w.heap.size, 0, none⟩ = some (.slice (some ⟨bb, off, none⟩) zs.length cap) := fun u hu => ((b0.kept (Below.refl _ _).drew).kept hu).cell 0
  have hIu : ∀ u, Kept (w.alloc (.cells #[.slice (some ⟨bb, off, none⟩) zs.length cap] 39)).drew u → Ints u (some ⟨bb, off, none⟩) zs := fun u hu => hI.kept (k0.trans hu)
  obtain ⟨v1, hv1⟩ : ∃ v, hz zs (a + 1) = v := ⟨_, rfl⟩
  have hb1 := hI.bd (a + 1)
  rw [hv1] at hb1
  obtain ⟨v2, hv2⟩ : ∃ v, hz zs (a + 2) = v := ⟨_, rfl⟩
  have hb2 := hI.bd (a + 2)
  rw [hv2] at hb2
  obtain ⟨v3, hv3⟩ : ∃ v, hz zs (a + 3) = v := ⟨_, rfl⟩
  have hb3 := hI.bd (a + 3)
  rw [hv3] at hb3
  by_cases hsz : 4 ≤ s ∧ s ≤ 5
  · have y1 : ∀ u, Kept (w.alloc (.cells #[.slice (some ⟨bb, off, none⟩) zs.length cap] 39)).drew u → u.cell? ⟨bb, off + (a + 1), none⟩ = some (.int .i64 v1) := fun u hu => by rw [← hv1]; exact ((k0.trans hu).cell (p := ⟨bb, off + (a + 1), none⟩) hbl).trans (hc (a + 1) (by omega))
    have t1 : ((a : Int) + 1).toNat = a + 1 := by omega
    have p1 : (0 : Int) ≤ (a : Int) + 1 := by omega
    have q1 : (a : Int) + 1 < (zs.length : Int) := by omega
    have r1 : IntKind.i64.wrap ((a : Int) + 1) = (a : Int) + 1 := IntWalk.i64_in _ ⟨by omega, by omega⟩
    have y2 : ∀ u, Kept (w.alloc (.cells #[.slice (some ⟨bb, off, none⟩) zs.length cap] 39)).drew u → u.cell? ⟨bb, off + (a + 2), none⟩ = some (.int .i64 v2) := fun u hu => by rw [← hv2]; exact ((k0.trans hu).cell (p := ⟨bb, off + (a + 2), none⟩) hbl).trans (hc (a + 2) (by omega))
    have t2 : ((a : Int) + 2).toNat = a + 2 := by omega
    have p2 : (0 : Int) ≤ (a : Int) + 2 := by omega
    have q2 : (a : Int) + 2 < (zs.length : Int) := by omega
    have r2 : IntKind.i64.wrap ((a : Int) + 2) = (a : Int) + 2 := IntWalk.i64_in _ ⟨by omega, by omega⟩
    have y3 : ∀ u, Kept (w.alloc (.cells #[.slice (some ⟨bb, off, none⟩) zs.length cap] 39)).drew u → u.cell? ⟨bb, off + (a + 3), none⟩ = some (.int .i64 v3) := fun u hu => by rw [← hv3]; exact ((k0.trans hu).cell (p := ⟨bb, off + (a + 3), none⟩) hbl).trans (hc (a + 3) (by omega))
    have t3 : ((a : Int) + 3).toNat = a + 3 := by omega
    have p3 : (0 : Int) ≤ (a : Int) + 3 := by omega
    have q3 : (a : Int) + 3 < (zs.length : Int) := by omega
    have r3 : IntKind.i64.wrap ((a : Int) + 3) = (a : Int) + 3 := IntWalk.i64_in _ ⟨by omega, by omega⟩
    have r4 : IntKind.i64.wrap ((a : Int) + 4) = (a : Int) + 4 := IntWalk.i64_in _ ⟨by omega, by omega⟩
    have rs : IntKind.i64.wrap ((a : Int) + (s : Int)) = (a : Int) + (s : Int) := IntWalk.i64_in _ ⟨by omega, by omega⟩
    have hZ : Hid (∀ u, Kept (w.alloc (.cells #[.slice (some ⟨bb, off, none⟩) zs.length cap] 39)).drew u → Calls Tryz.prog 190 #[.agg #[.slice (some ⟨bb, off, none⟩) zs.length cap], .int .i64 ((a : Int) + 4), .int .i64 ((a : Int) + (s : Int))] u fun e w' => e = .returned (.bool (zeroR zs (a + 4) (s - 4))) ∧ Kept u w') := fun u hu => l3Zero_ok u (some ⟨bb, off, none⟩) cap zs (a + 4) (s - 4) ((a : Int) + 4) ((a : Int) + (s : Int)) (by omega) (by omega) (hIu u hu) hl (by omega)
    have hIn : Hid (∀ u, Kept (w.alloc (.cells #[.slice (some ⟨bb, off, none⟩) zs.length cap] 39)).drew u → Calls Tryz.prog 71 #[.int .i64 s, .int .i64 4, .int .i64 5] u fun e w' => e = .returned (.bool true) ∧ Kept u w') := fun u hu => calls_kept (l1In_yes _ _ _ _ (by omega) (by omega))
    have hK1 : Hid (∀ u, Kept (w.alloc (.cells #[.slice (some ⟨bb, off, none⟩) zs.length cap] 39)).drew u → Calls Tryz.prog 72 #[.int .i64 v1] u fun e w' => e = .returned (.int .i64 (v1 % 8)) ∧ Kept u w') := fun u hu => calls_kept (spec_Kind_ok _ _)
    by_cases g0 : v1 % 8 = 4
    · have e4 : (v1 % 8 == 4) = true := by simp [g0]
      have hC1 := fun (u : World) (hu : Kept (w.alloc (.cells #[.slice (some ⟨bb, off, none⟩) zs.length cap] 39)).drew u) => l3Leads_ok u _ cap zs v1 0 (hIu u hu) hl hok hb1.1 hb1.2 (by omega)
      cases g1 : leadsR zs v1 0 with
      | false =>
        have HR : Hid (cellR zs a s = false) := by simp [Hid, cellR, hsz, hv1, hv2, hv3, g0, g1]
        have hD1 : Hid (∀ u, Kept (w.alloc (.cells #[.slice (some ⟨bb, off, none⟩) zs.length cap] 39)).drew u → Calls Tryz.prog 119 #[.agg #[.slice (some ⟨bb, off, none⟩) zs.length cap], .int .i64 v1, .int .i64 0] u fun e w' => e = .returned (.bool false) ∧ Kept u w') := fun u hu => by have := hC1 u hu; rw [g1] at this; exact this
        clear hc hok hI hIu hv1 hb1 hv2 hb2 hv3 hb3 hsz g1 hC1 g0
        go_enter Tryz.func158, Tryz.ntmps158
        go_wp2_with (first | (go_at_call 29; refine (l2Size_ok _ _).mono ?_; rintro e wx ⟨rfl, rfl⟩) | (go_at_call 121; refine (l2Kind_ok _ _).mono ?_; rintro e wx ⟨rfl, rfl⟩))
        refine wp_region_seqL (by kernel_rfl) (by kernel_rfl) ?_
        repeat (first
          | (refine SeqL.skip (by rfl) ?_; simp only [Act.put, List.setIfInBounds_toArray, List.set_cons_zero, List.set_cons_succ])
          | (refine SeqL.pure ?_ (by rfl) ?_ ?_; rotate_left; (focus (intro u hu; have x0' := x0 u hu; have y1' := y1 u hu; have y2' := y2 u hu; have y3' := y3 u hu; go_simp; first | done | exact rfl)); simp only [Act.put, List.setIfInBounds_toArray, List.set_cons_zero, List.set_cons_succ])
          | (refine SeqL.call _ _ _ (by rfl) ?_ hIn.out ?_; (focus (intro u; go_simp; done)); simp only [Act.put, List.setIfInBounds_toArray, List.set_cons_zero, List.set_cons_succ])
          | (refine SeqL.call _ _ _ (by rfl) ?_ hZ.out ?_; (focus (intro u; go_simp; done)); simp only [Act.put, List.setIfInBounds_toArray, List.set_cons_zero, List.set_cons_succ])
          | (refine SeqL.call _ _ _ (by rfl) ?_ hK1.out ?_; (focus (intro u; go_simp; done)); simp only [Act.put, List.setIfInBounds_toArray, List.set_cons_zero, List.set_cons_succ])
          | (refine SeqL.call _ _ _ (by rfl) ?_ hD1.out ?_; (focus (intro u; go_simp; done)); simp only [Act.put, List.setIfInBounds_toArray, List.set_cons_zero, List.set_cons_succ]))
        refine SeqL.nil ?_
        intro u hu
        go_wp2
        go_ret
        exact ⟨by rw [HR.out]; rfl, k0.trans hu⟩
      | true =>
        have hD1 : Hid (∀ u, Kept (w.alloc (.cells #[.slice (some ⟨bb, off, none⟩) zs.length cap] 39)).drew u → Calls Tryz.prog 119 #[.agg #[.slice (some ⟨bb, off, none⟩) zs.length cap], .int .i64 v1, .int .i64 0] u fun e w' => e = .returned (.bool true) ∧ Kept u w') := fun u hu => by have := hC1 u hu; rw [g1] at this; exact this
        have hC2 := fun (u : World) (hu : Kept (w.alloc (.cells #[.slice (some ⟨bb, off, none⟩) zs.length cap] 39)).drew u) => l3Plain_ok u _ cap zs v2 (hIu u hu) hl hok hb2.1 hb2.2
        cases g2 : plainR zs v2 with
        | false =>
          have HR : Hid (cellR zs a s = false) := by simp [Hid, cellR, hsz, hv1, hv2, hv3, g0, g1, g2]
          have hD2 : Hid (∀ u, Kept (w.alloc (.cells #[.slice (some ⟨bb, off, none⟩) zs.length cap] 39)).drew u → Calls Tryz.prog 191 #[.agg #[.slice (some ⟨bb, off, none⟩) zs.length cap], .int .i64 v2] u fun e w' => e = .returned (.bool false) ∧ Kept u w') := fun u hu => by have := hC2 u hu; rw [g2] at this; exact this
          clear hc hok hI hIu hv1 hb1 hv2 hb2 hv3 hb3 hsz g2 hC2 g0 g1 hC1
          go_enter Tryz.func158, Tryz.ntmps158
          go_wp2_with (first | (go_at_call 29; refine (l2Size_ok _ _).mono ?_; rintro e wx ⟨rfl, rfl⟩) | (go_at_call 121; refine (l2Kind_ok _ _).mono ?_; rintro e wx ⟨rfl, rfl⟩))
          refine wp_region_seqL (by kernel_rfl) (by kernel_rfl) ?_
          repeat (first
            | (refine SeqL.skip (by rfl) ?_; simp only [Act.put, List.setIfInBounds_toArray, List.set_cons_zero, List.set_cons_succ])
            | (refine SeqL.pure ?_ (by rfl) ?_ ?_; rotate_left; (focus (intro u hu; have x0' := x0 u hu; have y1' := y1 u hu; have y2' := y2 u hu; have y3' := y3 u hu; go_simp; first | done | exact rfl)); simp only [Act.put, List.setIfInBounds_toArray, List.set_cons_zero, List.set_cons_succ])
            | (refine SeqL.call _ _ _ (by rfl) ?_ hIn.out ?_; (focus (intro u; go_simp; done)); simp only [Act.put, List.setIfInBounds_toArray, List.set_cons_zero, List.set_cons_succ])
            | (refine SeqL.call _ _ _ (by rfl) ?_ hZ.out ?_; (focus (intro u; go_simp; done)); simp only [Act.put, List.setIfInBounds_toArray, List.set_cons_zero, List.set_cons_succ])
            | (refine SeqL.call _ _ _ (by rfl) ?_ hK1.out ?_; (focus (intro u; go_simp; done)); simp only [Act.put, List.setIfInBounds_toArray, List.set_cons_zero, List.set_cons_succ])
            | (refine SeqL.call _ _ _ (by rfl) ?_ hD1.out ?_; (focus (intro u; go_simp; done)); simp only [Act.put, List.setIfInBounds_toArray, List.set_cons_zero, List.set_cons_succ])
            | (refine SeqL.call _ _ _ (by rfl) ?_ hD2.out ?_; (focus (intro u; go_simp; done)); simp only [Act.put, List.setIfInBounds_toArray, List.set_cons_zero, List.set_cons_succ]))
          refine SeqL.nil ?_
          intro u hu
          go_wp2
          go_ret
          exact ⟨by rw [HR.out]; rfl, k0.trans hu⟩
        | true =>
          have hD2 : Hid (∀ u, Kept (w.alloc (.cells #[.slice (some ⟨bb, off, none⟩) zs.length cap] 39)).drew u → Calls Tryz.prog 191 #[.agg #[.slice (some ⟨bb, off, none⟩) zs.length cap], .int .i64 v2] u fun e w' => e = .returned (.bool true) ∧ Kept u w') := fun u hu => by have := hC2 u hu; rw [g2] at this; exact this
          have hC3 := fun (u : World) (hu : Kept (w.alloc (.cells #[.slice (some ⟨bb, off, none⟩) zs.length cap] 39)).drew u) => l3Next_ok u _ cap zs v3 3 (hIu u hu) hl hok hb3.1 hb3.2 (by omega)
          cases g3 : nextR zs v3 3 with
          | false =>
            have HR : Hid (cellR zs a s = false) := by simp [Hid, cellR, hsz, hv1, hv2, hv3, g0, g1, g2, g3]
            have hD3 : Hid (∀ u, Kept (w.alloc (.cells #[.slice (some ⟨bb, off, none⟩) zs.length cap] 39)).drew u → Calls Tryz.prog 189 #[.agg #[.slice (some ⟨bb, off, none⟩) zs.length cap], .int .i64 v3, .int .i64 3] u fun e w' => e = .returned (.bool false) ∧ Kept u w') := fun u hu => by have := hC3 u hu; rw [g3] at this; exact this
            clear hc hok hI hIu hv1 hb1 hv2 hb2 hv3 hb3 hsz g3 hC3 g0 g1 hC1 g2 hC2
            go_enter Tryz.func158, Tryz.ntmps158
            go_wp2_with (first | (go_at_call 29; refine (l2Size_ok _ _).mono ?_; rintro e wx ⟨rfl, rfl⟩) | (go_at_call 121; refine (l2Kind_ok _ _).mono ?_; rintro e wx ⟨rfl, rfl⟩))
            refine wp_region_seqL (by kernel_rfl) (by kernel_rfl) ?_
            repeat (first
              | (refine SeqL.skip (by rfl) ?_; simp only [Act.put, List.setIfInBounds_toArray, List.set_cons_zero, List.set_cons_succ])
              | (refine SeqL.pure ?_ (by rfl) ?_ ?_; rotate_left; (focus (intro u hu; have x0' := x0 u hu; have y1' := y1 u hu; have y2' := y2 u hu; have y3' := y3 u hu; go_simp; first | done | exact rfl)); simp only [Act.put, List.setIfInBounds_toArray, List.set_cons_zero, List.set_cons_succ])
              | (refine SeqL.call _ _ _ (by rfl) ?_ hIn.out ?_; (focus (intro u; go_simp; done)); simp only [Act.put, List.setIfInBounds_toArray, List.set_cons_zero, List.set_cons_succ])
              | (refine SeqL.call _ _ _ (by rfl) ?_ hZ.out ?_; (focus (intro u; go_simp; done)); simp only [Act.put, List.setIfInBounds_toArray, List.set_cons_zero, List.set_cons_succ])
              | (refine SeqL.call _ _ _ (by rfl) ?_ hK1.out ?_; (focus (intro u; go_simp; done)); simp only [Act.put, List.setIfInBounds_toArray, List.set_cons_zero, List.set_cons_succ])
              | (refine SeqL.call _ _ _ (by rfl) ?_ hD1.out ?_; (focus (intro u; go_simp; done)); simp only [Act.put, List.setIfInBounds_toArray, List.set_cons_zero, List.set_cons_succ])
              | (refine SeqL.call _ _ _ (by rfl) ?_ hD2.out ?_; (focus (intro u; go_simp; done)); simp only [Act.put, List.setIfInBounds_toArray, List.set_cons_zero, List.set_cons_succ])
              | (refine SeqL.call _ _ _ (by rfl) ?_ hD3.out ?_; (focus (intro u; go_simp; done)); simp only [Act.put, List.setIfInBounds_toArray, List.set_cons_zero, List.set_cons_succ]))
            refine SeqL.nil ?_
            intro u hu
            go_wp2
            go_ret
            exact ⟨by rw [HR.out]; rfl, k0.trans hu⟩
          | true =>
            have hD3 : Hid (∀ u, Kept (w.alloc (.cells #[.slice (some ⟨bb, off, none⟩) zs.length cap] 39)).drew u → Calls Tryz.prog 189 #[.agg #[.slice (some ⟨bb, off, none⟩) zs.length cap], .int .i64 v3, .int .i64 3] u fun e w' => e = .returned (.bool true) ∧ Kept u w') := fun u hu => by have := hC3 u hu; rw [g3] at this; exact this
            have HR : Hid (cellR zs a s = zeroR zs (a + 4) (s - 4)) := by simp [Hid, cellR, hsz, hv1, hv2, hv3, g0, g1, g2, g3]
            clear hc hok hI hIu hv1 hb1 hv2 hb2 hv3 hb3 g0 g1 hC1 g2 hC2 g3 hC3 hsz
            go_enter Tryz.func158, Tryz.ntmps158
            go_wp2_with (first | (go_at_call 29; refine (l2Size_ok _ _).mono ?_; rintro e wx ⟨rfl, rfl⟩) | (go_at_call 121; refine (l2Kind_ok _ _).mono ?_; rintro e wx ⟨rfl, rfl⟩))
            refine wp_region_seqL (by kernel_rfl) (by kernel_rfl) ?_
            repeat (first
              | (refine SeqL.skip (by rfl) ?_; simp only [Act.put, List.setIfInBounds_toArray, List.set_cons_zero, List.set_cons_succ])
              | (refine SeqL.pure ?_ (by rfl) ?_ ?_; rotate_left; (focus (intro u hu; have x0' := x0 u hu; have y1' := y1 u hu; have y2' := y2 u hu; have y3' := y3 u hu; go_simp; first | done | exact rfl)); simp only [Act.put, List.setIfInBounds_toArray, List.set_cons_zero, List.set_cons_succ])
              | (refine SeqL.call _ _ _ (by rfl) ?_ hIn.out ?_; (focus (intro u; go_simp; done)); simp only [Act.put, List.setIfInBounds_toArray, List.set_cons_zero, List.set_cons_succ])
              | (refine SeqL.call _ _ _ (by rfl) ?_ hZ.out ?_; (focus (intro u; go_simp; done)); simp only [Act.put, List.setIfInBounds_toArray, List.set_cons_zero, List.set_cons_succ])
              | (refine SeqL.call _ _ _ (by rfl) ?_ hK1.out ?_; (focus (intro u; go_simp; done)); simp only [Act.put, List.setIfInBounds_toArray, List.set_cons_zero, List.set_cons_succ])
              | (refine SeqL.call _ _ _ (by rfl) ?_ hD1.out ?_; (focus (intro u; go_simp; done)); simp only [Act.put, List.setIfInBounds_toArray, List.set_cons_zero, List.set_cons_succ])
              | (refine SeqL.call _ _ _ (by rfl) ?_ hD2.out ?_; (focus (intro u; go_simp; done)); simp only [Act.put, List.setIfInBounds_toArray, List.set_cons_zero, List.set_cons_succ])
              | (refine SeqL.call _ _ _ (by rfl) ?_ hD3.out ?_; (focus (intro u; go_simp; done)); simp only [Act.put, List.setIfInBounds_toArray, List.set_cons_zero, List.set_cons_succ]))
            refine SeqL.nil ?_
            intro u hu
            go_wp2
            go_ret
            exact ⟨by rw [HR.out]; rfl, k0.trans hu⟩
    · have HR : Hid (cellR zs a s = false) := by simp [Hid, cellR, hsz, hv1, hv2, hv3, g0]
      have e4 : (v1 % 8 == 4) = false := by simpa using g0
      clear hc hok hI hIu hv1 hb1 hv2 hb2 hv3 hb3 hsz g0
      go_enter Tryz.func158, Tryz.ntmps158
      go_wp2_with (first | (go_at_call 29; refine (l2Size_ok _ _).mono ?_; rintro e wx ⟨rfl, rfl⟩) | (go_at_call 121; refine (l2Kind_ok _ _).mono ?_; rintro e wx ⟨rfl, rfl⟩))
      refine wp_region_seqL (by kernel_rfl) (by kernel_rfl) ?_
      repeat (first
        | (refine SeqL.skip (by rfl) ?_; simp only [Act.put, List.setIfInBounds_toArray, List.set_cons_zero, List.set_cons_succ])
        | (refine SeqL.pure ?_ (by rfl) ?_ ?_; rotate_left; (focus (intro u hu; have x0' := x0 u hu; have y1' := y1 u hu; have y2' := y2 u hu; have y3' := y3 u hu; go_simp; first | done | exact rfl)); simp only [Act.put, List.setIfInBounds_toArray, List.set_cons_zero, List.set_cons_succ])
        | (refine SeqL.call _ _ _ (by rfl) ?_ hIn.out ?_; (focus (intro u; go_simp; done)); simp only [Act.put, List.setIfInBounds_toArray, List.set_cons_zero, List.set_cons_succ])
        | (refine SeqL.call _ _ _ (by rfl) ?_ hZ.out ?_; (focus (intro u; go_simp; done)); simp only [Act.put, List.setIfInBounds_toArray, List.set_cons_zero, List.set_cons_succ])
        | (refine SeqL.call _ _ _ (by rfl) ?_ hK1.out ?_; (focus (intro u; go_simp; done)); simp only [Act.put, List.setIfInBounds_toArray, List.set_cons_zero, List.set_cons_succ]))
      refine SeqL.nil ?_
      intro u hu
      go_wp2
      go_ret
      exact ⟨by rw [HR.out]; rfl, k0.trans hu⟩
  · have HR : Hid (cellR zs a s = false) := by simp [Hid, cellR, hsz]
    have hIn : Hid (∀ u, Kept (w.alloc (.cells #[.slice (some ⟨bb, off, none⟩) zs.length cap] 39)).drew u → Calls Tryz.prog 71 #[.int .i64 s, .int .i64 4, .int .i64 5] u fun e w' => e = .returned (.bool false) ∧ Kept u w') := fun u hu => calls_kept (l1In_no _ _ _ _ (by omega))
    clear hc hok hI hIu hv1 hb1 hv2 hb2 hv3 hb3 hsz
    go_enter Tryz.func158, Tryz.ntmps158
    go_wp2_with (first | (go_at_call 29; refine (l2Size_ok _ _).mono ?_; rintro e wx ⟨rfl, rfl⟩) | (go_at_call 121; refine (l2Kind_ok _ _).mono ?_; rintro e wx ⟨rfl, rfl⟩))
    refine wp_region_seqL (by kernel_rfl) (by kernel_rfl) ?_
    repeat (first
      | (refine SeqL.skip (by rfl) ?_; simp only [Act.put, List.setIfInBounds_toArray, List.set_cons_zero, List.set_cons_succ])
      | (refine SeqL.pure ?_ (by rfl) ?_ ?_; rotate_left; (focus (intro u hu; skip; go_simp; first | done | exact rfl)); simp only [Act.put, List.setIfInBounds_toArray, List.set_cons_zero, List.set_cons_succ])
      | (refine SeqL.call _ _ _ (by rfl) ?_ hIn.out ?_; (focus (intro u; go_simp; done)); simp only [Act.put, List.setIfInBounds_toArray, List.set_cons_zero, List.set_cons_succ]))
    refine SeqL.nil ?_
    intro u hu
    go_wp2
    go_ret
    exact ⟨by rw [HR.out]; rfl, k0.trans hu⟩
end Go.Proofs.YtgempjjnfpmndaaGreatDoor
namespace Go.Proofs.YtgempjjnfpmndaaGreatDoor
open Go.RowKit
attribute [local go_sem] Plain.and7

set_option maxHeartbeats 16000000 in
set_option maxRecDepth 100000 in
theorem l3Shape_obj (w : World) (ao : Option Addr) (cap : Nat) (zs : List Int) (a s : Nat) (hI : Ints w ao zs) (hl : zs.length ≤ 1048576) (hok : slabOk zs = true) (hle : a + s ≤ zs.length) (hs : 2 ≤ s) (hz8 : hz zs a / 8 = (s : Int)) (hz9 : hz zs a % 8 = 2) :
    Calls Tryz.prog 158 #[.agg #[.slice ao zs.length cap], .int .i64 a] w fun e w' => e = .returned (.bool (objR zs a s)) ∧ Kept w w' := by
  have b0 := Cells.new w 39 #[.slice ao zs.length cap]
  have k0 : Kept w (w.alloc (.cells #[.slice ao zs.length cap] 39)).drew := (Kept.alloc (Below.refl _ _) _).drew
  have c0 := b0.cell 0
  obtain ⟨bb, off, rfl, hc⟩ := hI.at (k := 0) (by omega)
  have hck := hc a (by omega)
  have hbl : bb < w.heap.size := World.block_lt_of_cell? _ _ hck
  have hltI : (a : Int) < (zs.length : Int) := by omega
  have x0 : ∀ u, Kept (w.alloc (.cells #[.slice (some ⟨bb, off, none⟩) zs.length cap] 39)).drew u → u.cell? ⟨w.heap.size, 0, none⟩ = some (.slice (some ⟨bb, off, none⟩) zs.length cap) := fun u hu => ((b0.kept (Below.refl _ _).drew).kept hu).cell 0
  have hIu : ∀ u, Kept (w.alloc (.cells #[.slice (some ⟨bb, off, none⟩) zs.length cap] 39)).drew u → Ints u (some ⟨bb, off, none⟩) zs := fun u hu => hI.kept (k0.trans hu)
  obtain ⟨v1, hv1⟩ : ∃ v, hz zs (a + 1) = v := ⟨_, rfl⟩
  have hb1 := hI.bd (a + 1)
  rw [hv1] at hb1
  obtain ⟨v2, hv2⟩ : ∃ v, hz zs (a + 2) = v := ⟨_, rfl⟩
  have hb2 := hI.bd (a + 2)
  rw [hv2] at hb2
  by_cases hsz : 3 ≤ s ∧ s ≤ 4
  · have y1 : ∀ u, Kept (w.alloc (.cells #[.slice (some ⟨bb, off, none⟩) zs.length cap] 39)).drew u → u.cell? ⟨bb, off + (a + 1), none⟩ = some (.int .i64 v1) := fun u hu => by rw [← hv1]; exact ((k0.trans hu).cell (p := ⟨bb, off + (a + 1), none⟩) hbl).trans (hc (a + 1) (by omega))
    have t1 : ((a : Int) + 1).toNat = a + 1 := by omega
    have p1 : (0 : Int) ≤ (a : Int) + 1 := by omega
    have q1 : (a : Int) + 1 < (zs.length : Int) := by omega
    have r1 : IntKind.i64.wrap ((a : Int) + 1) = (a : Int) + 1 := IntWalk.i64_in _ ⟨by omega, by omega⟩
    have y2 : ∀ u, Kept (w.alloc (.cells #[.slice (some ⟨bb, off, none⟩) zs.length cap] 39)).drew u → u.cell? ⟨bb, off + (a + 2), none⟩ = some (.int .i64 v2) := fun u hu => by rw [← hv2]; exact ((k0.trans hu).cell (p := ⟨bb, off + (a + 2), none⟩) hbl).trans (hc (a + 2) (by omega))
    have t2 : ((a : Int) + 2).toNat = a + 2 := by omega
    have p2 : (0 : Int) ≤ (a : Int) + 2 := by omega
    have q2 : (a : Int) + 2 < (zs.length : Int) := by omega
    have r2 : IntKind.i64.wrap ((a : Int) + 2) = (a : Int) + 2 := IntWalk.i64_in _ ⟨by omega, by omega⟩
    have r3 : IntKind.i64.wrap ((a : Int) + 3) = (a : Int) + 3 := IntWalk.i64_in _ ⟨by omega, by omega⟩
    have rs : IntKind.i64.wrap ((a : Int) + (s : Int)) = (a : Int) + (s : Int) := IntWalk.i64_in _ ⟨by omega, by omega⟩
    have hZ : Hid (∀ u, Kept (w.alloc (.cells #[.slice (some ⟨bb, off, none⟩) zs.length cap] 39)).drew u → Calls Tryz.prog 190 #[.agg #[.slice (some ⟨bb, off, none⟩) zs.length cap], .int .i64 ((a : Int) + 3), .int .i64 ((a : Int) + (s : Int))] u fun e w' => e = .returned (.bool (zeroR zs (a + 3) (s - 3))) ∧ Kept u w') := fun u hu => l3Zero_ok u (some ⟨bb, off, none⟩) cap zs (a + 3) (s - 3) ((a : Int) + 3) ((a : Int) + (s : Int)) (by omega) (by omega) (hIu u hu) hl (by omega)
    have hIn : Hid (∀ u, Kept (w.alloc (.cells #[.slice (some ⟨bb, off, none⟩) zs.length cap] 39)).drew u → Calls Tryz.prog 71 #[.int .i64 s, .int .i64 3, .int .i64 4] u fun e w' => e = .returned (.bool true) ∧ Kept u w') := fun u hu => calls_kept (l1In_yes _ _ _ _ (by omega) (by omega))
    have hK1 : Hid (∀ u, Kept (w.alloc (.cells #[.slice (some ⟨bb, off, none⟩) zs.length cap] 39)).drew u → Calls Tryz.prog 72 #[.int .i64 v1] u fun e w' => e = .returned (.int .i64 (v1 % 8)) ∧ Kept u w') := fun u hu => calls_kept (spec_Kind_ok _ _)
    by_cases hp : v1 = 1
    · have f1 : (v1 == 1) = true := by simp [hp]
      have hC2 := fun (u : World) (hu : Kept (w.alloc (.cells #[.slice (some ⟨bb, off, none⟩) zs.length cap] 39)).drew u) => l3Next_ok u _ cap zs v2 3 (hIu u hu) hl hok hb2.1 hb2.2 (by omega)
      cases g2 : nextR zs v2 3 with
      | false =>
        have HR : Hid (objR zs a s = false) := by simp [Hid, objR, hsz, hv1, hv2, hp, g2]
        have hD2 : Hid (∀ u, Kept (w.alloc (.cells #[.slice (some ⟨bb, off, none⟩) zs.length cap] 39)).drew u → Calls Tryz.prog 189 #[.agg #[.slice (some ⟨bb, off, none⟩) zs.length cap], .int .i64 v2, .int .i64 3] u fun e w' => e = .returned (.bool false) ∧ Kept u w') := fun u hu => by have := hC2 u hu; rw [g2] at this; exact this
        clear hc hok hI hIu hv1 hb1 hv2 hb2 hsz g2 hC2 hp
        go_enter Tryz.func158, Tryz.ntmps158
        go_wp2_with (first | (go_at_call 29; refine (l2Size_ok _ _).mono ?_; rintro e wx ⟨rfl, rfl⟩) | (go_at_call 121; refine (l2Kind_ok _ _).mono ?_; rintro e wx ⟨rfl, rfl⟩))
        refine wp_region_seqL (by kernel_rfl) (by kernel_rfl) ?_
        repeat (first
          | (refine SeqL.skip (by rfl) ?_; simp only [Act.put, List.setIfInBounds_toArray, List.set_cons_zero, List.set_cons_succ])
          | (refine SeqL.pure ?_ (by rfl) ?_ ?_; rotate_left; (focus (intro u hu; have x0' := x0 u hu; have y1' := y1 u hu; have y2' := y2 u hu; go_simp; first | done | exact rfl)); simp only [Act.put, List.setIfInBounds_toArray, List.set_cons_zero, List.set_cons_succ])
          | (refine SeqL.call _ _ _ (by rfl) ?_ hIn.out ?_; (focus (intro u; go_simp; done)); simp only [Act.put, List.setIfInBounds_toArray, List.set_cons_zero, List.set_cons_succ])
          | (refine SeqL.call _ _ _ (by rfl) ?_ hZ.out ?_; (focus (intro u; go_simp; done)); simp only [Act.put, List.setIfInBounds_toArray, List.set_cons_zero, List.set_cons_succ])
          | (refine SeqL.call _ _ _ (by rfl) ?_ hK1.out ?_; (focus (intro u; go_simp; done)); simp only [Act.put, List.setIfInBounds_toArray, List.set_cons_zero, List.set_cons_succ])
          | (refine SeqL.call _ _ _ (by rfl) ?_ hD2.out ?_; (focus (intro u; go_simp; done)); simp only [Act.put, List.setIfInBounds_toArray, List.set_cons_zero, List.set_cons_succ]))
        refine SeqL.nil ?_
        intro u hu
        go_wp2
        go_ret
        exact ⟨by rw [HR.out]; rfl, k0.trans hu⟩
      | true =>
        have hD2 : Hid (∀ u, Kept (w.alloc (.cells #[.slice (some ⟨bb, off, none⟩) zs.length cap] 39)).drew u → Calls Tryz.prog 189 #[.agg #[.slice (some ⟨bb, off, none⟩) zs.length cap], .int .i64 v2, .int .i64 3] u fun e w' => e = .returned (.bool true) ∧ Kept u w') := fun u hu => by have := hC2 u hu; rw [g2] at this; exact this
        have HR : Hid (objR zs a s = zeroR zs (a + 3) (s - 3)) := by simp [Hid, objR, hsz, hv1, hv2, hp, g2]
        clear hc hok hI hIu hv1 hb1 hv2 hb2 hp g2 hC2 hsz
        go_enter Tryz.func158, Tryz.ntmps158
        go_wp2_with (first | (go_at_call 29; refine (l2Size_ok _ _).mono ?_; rintro e wx ⟨rfl, rfl⟩) | (go_at_call 121; refine (l2Kind_ok _ _).mono ?_; rintro e wx ⟨rfl, rfl⟩))
        refine wp_region_seqL (by kernel_rfl) (by kernel_rfl) ?_
        repeat (first
          | (refine SeqL.skip (by rfl) ?_; simp only [Act.put, List.setIfInBounds_toArray, List.set_cons_zero, List.set_cons_succ])
          | (refine SeqL.pure ?_ (by rfl) ?_ ?_; rotate_left; (focus (intro u hu; have x0' := x0 u hu; have y1' := y1 u hu; have y2' := y2 u hu; go_simp; first | done | exact rfl)); simp only [Act.put, List.setIfInBounds_toArray, List.set_cons_zero, List.set_cons_succ])
          | (refine SeqL.call _ _ _ (by rfl) ?_ hIn.out ?_; (focus (intro u; go_simp; done)); simp only [Act.put, List.setIfInBounds_toArray, List.set_cons_zero, List.set_cons_succ])
          | (refine SeqL.call _ _ _ (by rfl) ?_ hZ.out ?_; (focus (intro u; go_simp; done)); simp only [Act.put, List.setIfInBounds_toArray, List.set_cons_zero, List.set_cons_succ])
          | (refine SeqL.call _ _ _ (by rfl) ?_ hK1.out ?_; (focus (intro u; go_simp; done)); simp only [Act.put, List.setIfInBounds_toArray, List.set_cons_zero, List.set_cons_succ])
          | (refine SeqL.call _ _ _ (by rfl) ?_ hD2.out ?_; (focus (intro u; go_simp; done)); simp only [Act.put, List.setIfInBounds_toArray, List.set_cons_zero, List.set_cons_succ]))
        refine SeqL.nil ?_
        intro u hu
        go_wp2
        go_ret
        exact ⟨by rw [HR.out]; rfl, k0.trans hu⟩
    · have f1 : (v1 == 1) = false := by simpa using hp
      by_cases g0 : v1 % 8 = 5
      · have e5 : (v1 % 8 == 5) = true := by simp [g0]
        have hC1 := fun (u : World) (hu : Kept (w.alloc (.cells #[.slice (some ⟨bb, off, none⟩) zs.length cap] 39)).drew u) => l3Leads_ok u _ cap zs v1 0 (hIu u hu) hl hok hb1.1 hb1.2 (by omega)
        cases g1 : leadsR zs v1 0 with
        | false =>
          have HR : Hid (objR zs a s = false) := by simp [Hid, objR, hsz, hv1, hv2, hp, g0, g1]
          have hD1 : Hid (∀ u, Kept (w.alloc (.cells #[.slice (some ⟨bb, off, none⟩) zs.length cap] 39)).drew u → Calls Tryz.prog 119 #[.agg #[.slice (some ⟨bb, off, none⟩) zs.length cap], .int .i64 v1, .int .i64 0] u fun e w' => e = .returned (.bool false) ∧ Kept u w') := fun u hu => by have := hC1 u hu; rw [g1] at this; exact this
          clear hc hok hI hIu hv1 hb1 hv2 hb2 hsz g1 hC1 hp g0
          go_enter Tryz.func158, Tryz.ntmps158
          go_wp2_with (first | (go_at_call 29; refine (l2Size_ok _ _).mono ?_; rintro e wx ⟨rfl, rfl⟩) | (go_at_call 121; refine (l2Kind_ok _ _).mono ?_; rintro e wx ⟨rfl, rfl⟩))
          refine wp_region_seqL (by kernel_rfl) (by kernel_rfl) ?_
          repeat (first
            | (refine SeqL.skip (by rfl) ?_; simp only [Act.put, List.setIfInBounds_toArray, List.set_cons_zero, List.set_cons_succ])
            | (refine SeqL.pure ?_ (by rfl) ?_ ?_; rotate_left; (focus (intro u hu; have x0' := x0 u hu; have y1' := y1 u hu; have y2' := y2 u hu; go_simp; first | done | exact rfl)); simp only [Act.put, List.setIfInBounds_toArray, List.set_cons_zero, List.set_cons_succ])
            | (refine SeqL.call _ _ _ (by rfl) ?_ hIn.out ?_; (focus (intro u; go_simp; done)); simp only [Act.put, List.setIfInBounds_toArray, List.set_cons_zero, List.set_cons_succ])
            | (refine SeqL.call _ _ _ (by rfl) ?_ hZ.out ?_; (focus (intro u; go_simp; done)); simp only [Act.put, List.setIfInBounds_toArray, List.set_cons_zero, List.set_cons_succ])
            | (refine SeqL.call _ _ _ (by rfl) ?_ hK1.out ?_; (focus (intro u; go_simp; done)); simp only [Act.put, List.setIfInBounds_toArray, List.set_cons_zero, List.set_cons_succ])
            | (refine SeqL.call _ _ _ (by rfl) ?_ hD1.out ?_; (focus (intro u; go_simp; done)); simp only [Act.put, List.setIfInBounds_toArray, List.set_cons_zero, List.set_cons_succ]))
          refine SeqL.nil ?_
          intro u hu
          go_wp2
          go_ret
          exact ⟨by rw [HR.out]; rfl, k0.trans hu⟩
        | true =>
          have hD1 : Hid (∀ u, Kept (w.alloc (.cells #[.slice (some ⟨bb, off, none⟩) zs.length cap] 39)).drew u → Calls Tryz.prog 119 #[.agg #[.slice (some ⟨bb, off, none⟩) zs.length cap], .int .i64 v1, .int .i64 0] u fun e w' => e = .returned (.bool true) ∧ Kept u w') := fun u hu => by have := hC1 u hu; rw [g1] at this; exact this
          have hC2 := fun (u : World) (hu : Kept (w.alloc (.cells #[.slice (some ⟨bb, off, none⟩) zs.length cap] 39)).drew u) => l3Next_ok u _ cap zs v2 3 (hIu u hu) hl hok hb2.1 hb2.2 (by omega)
          cases g2 : nextR zs v2 3 with
          | false =>
            have HR : Hid (objR zs a s = false) := by simp [Hid, objR, hsz, hv1, hv2, hp, g0, g1, g2]
            have hD2 : Hid (∀ u, Kept (w.alloc (.cells #[.slice (some ⟨bb, off, none⟩) zs.length cap] 39)).drew u → Calls Tryz.prog 189 #[.agg #[.slice (some ⟨bb, off, none⟩) zs.length cap], .int .i64 v2, .int .i64 3] u fun e w' => e = .returned (.bool false) ∧ Kept u w') := fun u hu => by have := hC2 u hu; rw [g2] at this; exact this
            clear hc hok hI hIu hv1 hb1 hv2 hb2 hsz g2 hC2 hp g0 g1 hC1
            go_enter Tryz.func158, Tryz.ntmps158
            go_wp2_with (first | (go_at_call 29; refine (l2Size_ok _ _).mono ?_; rintro e wx ⟨rfl, rfl⟩) | (go_at_call 121; refine (l2Kind_ok _ _).mono ?_; rintro e wx ⟨rfl, rfl⟩))
            refine wp_region_seqL (by kernel_rfl) (by kernel_rfl) ?_
            repeat (first
              | (refine SeqL.skip (by rfl) ?_; simp only [Act.put, List.setIfInBounds_toArray, List.set_cons_zero, List.set_cons_succ])
              | (refine SeqL.pure ?_ (by rfl) ?_ ?_; rotate_left; (focus (intro u hu; have x0' := x0 u hu; have y1' := y1 u hu; have y2' := y2 u hu; go_simp; first | done | exact rfl)); simp only [Act.put, List.setIfInBounds_toArray, List.set_cons_zero, List.set_cons_succ])
              | (refine SeqL.call _ _ _ (by rfl) ?_ hIn.out ?_; (focus (intro u; go_simp; done)); simp only [Act.put, List.setIfInBounds_toArray, List.set_cons_zero, List.set_cons_succ])
              | (refine SeqL.call _ _ _ (by rfl) ?_ hZ.out ?_; (focus (intro u; go_simp; done)); simp only [Act.put, List.setIfInBounds_toArray, List.set_cons_zero, List.set_cons_succ])
              | (refine SeqL.call _ _ _ (by rfl) ?_ hK1.out ?_; (focus (intro u; go_simp; done)); simp only [Act.put, List.setIfInBounds_toArray, List.set_cons_zero, List.set_cons_succ])
              | (refine SeqL.call _ _ _ (by rfl) ?_ hD1.out ?_; (focus (intro u; go_simp; done)); simp only [Act.put, List.setIfInBounds_toArray, List.set_cons_zero, List.set_cons_succ])
              | (refine SeqL.call _ _ _ (by rfl) ?_ hD2.out ?_; (focus (intro u; go_simp; done)); simp only [Act.put, List.setIfInBounds_toArray, List.set_cons_zero, List.set_cons_succ]))
            refine SeqL.nil ?_
            intro u hu
            go_wp2
            go_ret
            exact ⟨by rw [HR.out]; rfl, k0.trans hu⟩
          | true =>
            have hD2 : Hid (∀ u, Kept (w.alloc (.cells #[.slice (some ⟨bb, off, none⟩) zs.length cap] 39)).drew u → Calls Tryz.prog 189 #[.agg #[.slice (some ⟨bb, off, none⟩) zs.length cap], .int .i64 v2, .int .i64 3] u fun e w' => e = .returned (.bool true) ∧ Kept u w') := fun u hu => by have := hC2 u hu; rw [g2] at this; exact this
            have HR : Hid (objR zs a s = zeroR zs (a + 3) (s - 3)) := by simp [Hid, objR, hsz, hv1, hv2, hp, g0, g1, g2]
            clear hc hok hI hIu hv1 hb1 hv2 hb2 hp g0 g1 hC1 g2 hC2 hsz
            go_enter Tryz.func158, Tryz.ntmps158
            go_wp2_with (first | (go_at_call 29; refine (l2Size_ok _ _).mono ?_; rintro e wx ⟨rfl, rfl⟩) | (go_at_call 121; refine (l2Kind_ok _ _).mono ?_; rintro e wx ⟨rfl, rfl⟩))
            refine wp_region_seqL (by kernel_rfl) (by kernel_rfl) ?_
            repeat (first
              | (refine SeqL.skip (by rfl) ?_; simp only [Act.put, List.setIfInBounds_toArray, List.set_cons_zero, List.set_cons_succ])
              | (refine SeqL.pure ?_ (by rfl) ?_ ?_; rotate_left; (focus (intro u hu; have x0' := x0 u hu; have y1' := y1 u hu; have y2' := y2 u hu; go_simp; first | done | exact rfl)); simp only [Act.put, List.setIfInBounds_toArray, List.set_cons_zero, List.set_cons_succ])
              | (refine SeqL.call _ _ _ (by rfl) ?_ hIn.out ?_; (focus (intro u; go_simp; done)); simp only [Act.put, List.setIfInBounds_toArray, List.set_cons_zero, List.set_cons_succ])
              | (refine SeqL.call _ _ _ (by rfl) ?_ hZ.out ?_; (focus (intro u; go_simp; done)); simp only [Act.put, List.setIfInBounds_toArray, List.set_cons_zero, List.set_cons_succ])
              | (refine SeqL.call _ _ _ (by rfl) ?_ hK1.out ?_; (focus (intro u; go_simp; done)); simp only [Act.put, List.setIfInBounds_toArray, List.set_cons_zero, List.set_cons_succ])
              | (refine SeqL.call _ _ _ (by rfl) ?_ hD1.out ?_; (focus (intro u; go_simp; done)); simp only [Act.put, List.setIfInBounds_toArray, List.set_cons_zero, List.set_cons_succ])
              | (refine SeqL.call _ _ _ (by rfl) ?_ hD2.out ?_; (focus (intro u; go_simp; done)); simp only [Act.put, List.setIfInBounds_toArray, List.set_cons_zero, List.set_cons_succ]))
            refine SeqL.nil ?_
            intro u hu
            go_wp2
            go_ret
            exact ⟨by rw [HR.out]; rfl, k0.trans hu⟩
      · have HR : Hid (objR zs a s = false) := by simp [Hid, objR, hsz, hv1, hv2, hp, g0]
        have e5 : (v1 % 8 == 5) = false := by simpa using g0
        clear hc hok hI hIu hv1 hb1 hv2 hb2 hsz hp g0
        go_enter Tryz.func158, Tryz.ntmps158
        go_wp2_with (first | (go_at_call 29; refine (l2Size_ok _ _).mono ?_; rintro e wx ⟨rfl, rfl⟩) | (go_at_call 121; refine (l2Kind_ok _ _).mono ?_; rintro e wx ⟨rfl, rfl⟩))
        refine wp_region_seqL (by kernel_rfl) (by kernel_rfl) ?_
        repeat (first
          | (refine SeqL.skip (by rfl) ?_; simp only [Act.put, List.setIfInBounds_toArray, List.set_cons_zero, List.set_cons_succ])
          | (refine SeqL.pure ?_ (by rfl) ?_ ?_; rotate_left; (focus (intro u hu; have x0' := x0 u hu; have y1' := y1 u hu; have y2' := y2 u hu; go_simp; first | done | exact rfl)); simp only [Act.put, List.setIfInBounds_toArray, List.set_cons_zero, List.set_cons_succ])
          | (refine SeqL.call _ _ _ (by rfl) ?_ hIn.out ?_; (focus (intro u; go_simp; done)); simp only [Act.put, List.setIfInBounds_toArray, List.set_cons_zero, List.set_cons_succ])
          | (refine SeqL.call _ _ _ (by rfl) ?_ hZ.out ?_; (focus (intro u; go_simp; done)); simp only [Act.put, List.setIfInBounds_toArray, List.set_cons_zero, List.set_cons_succ])
          | (refine SeqL.call _ _ _ (by rfl) ?_ hK1.out ?_; (focus (intro u; go_simp; done)); simp only [Act.put, List.setIfInBounds_toArray, List.set_cons_zero, List.set_cons_succ]))
        refine SeqL.nil ?_
        intro u hu
        go_wp2
        go_ret
        exact ⟨by rw [HR.out]; rfl, k0.trans hu⟩
  · have HR : Hid (objR zs a s = false) := by simp [Hid, objR, hsz]
    have hIn : Hid (∀ u, Kept (w.alloc (.cells #[.slice (some ⟨bb, off, none⟩) zs.length cap] 39)).drew u → Calls Tryz.prog 71 #[.int .i64 s, .int .i64 3, .int .i64 4] u fun e w' => e = .returned (.bool false) ∧ Kept u w') := fun u hu => calls_kept (l1In_no _ _ _ _ (by omega))
    clear hc hok hI hIu hv1 hb1 hv2 hb2 hsz
    go_enter Tryz.func158, Tryz.ntmps158
    go_wp2_with (first | (go_at_call 29; refine (l2Size_ok _ _).mono ?_; rintro e wx ⟨rfl, rfl⟩) | (go_at_call 121; refine (l2Kind_ok _ _).mono ?_; rintro e wx ⟨rfl, rfl⟩))
    refine wp_region_seqL (by kernel_rfl) (by kernel_rfl) ?_
    repeat (first
      | (refine SeqL.skip (by rfl) ?_; simp only [Act.put, List.setIfInBounds_toArray, List.set_cons_zero, List.set_cons_succ])
      | (refine SeqL.pure ?_ (by rfl) ?_ ?_; rotate_left; (focus (intro u hu; skip; go_simp; first | done | exact rfl)); simp only [Act.put, List.setIfInBounds_toArray, List.set_cons_zero, List.set_cons_succ])
      | (refine SeqL.call _ _ _ (by rfl) ?_ hIn.out ?_; (focus (intro u; go_simp; done)); simp only [Act.put, List.setIfInBounds_toArray, List.set_cons_zero, List.set_cons_succ]))
    refine SeqL.nil ?_
    intro u hu
    go_wp2
    go_ret
    exact ⟨by rw [HR.out]; rfl, k0.trans hu⟩
end Go.Proofs.YtgempjjnfpmndaaGreatDoor
namespace Go.Proofs.YtgempjjnfpmndaaGreatDoor
open Go.RowKit
attribute [local go_sem] Plain.and7

/-- The outer scope of a scope, and so many of its values, are right. -/
def scopeK (zs : List Int) (a j : Nat) : Bool := nextR zs (hz zs (a + 1)) 5 && allR (fun i => plainR zs (hz zs (a + 2 + i))) j
theorem scopeK_zero (zs : List Int) (a : Nat) : scopeK zs a 0 = nextR zs (hz zs (a + 1)) 5 := by simp [scopeK, allR_zero]
theorem scopeK_succ {zs : List Int} {a j : Nat} (h : scopeK zs a j = true) : scopeK zs a (j + 1) = plainR zs (hz zs (a + 2 + j)) := by
  simp only [scopeK, Bool.and_eq_true] at h
  simp [scopeK, allR_succ, h.1, h.2]
theorem scopeK_false {zs : List Int} {a j n : Nat} (hj : j ≤ n) (h : scopeK zs a j = false) : scopeK zs a n = false := by
  unfold scopeK at h ⊢
  cases hb : nextR zs (hz zs (a + 1)) 5 with
  | false => rfl
  | true => rw [hb, Bool.true_and] at h; rw [Bool.true_and]; exact allR_false hj h

set_option maxHeartbeats 16000000 in
set_option maxRecDepth 100000 in
theorem l3Shape_scope (w : World) (ao : Option Addr) (cap : Nat) (zs : List Int) (a s : Nat) (hI : Ints w ao zs) (hl : zs.length ≤ 1048576) (hok : slabOk zs = true) (hle : a + s ≤ zs.length) (hs : 2 ≤ s) (hz8 : hz zs a / 8 = (s : Int)) (hz9 : hz zs a % 8 = 5) :
    Calls Tryz.prog 158 #[.agg #[.slice ao zs.length cap], .int .i64 a] w fun e w' => e = .returned (.bool (scopeR zs a s)) ∧ Kept w w' := by
  have b0 := Cells.new w 39 #[.slice ao zs.length cap]
  have k0 : Kept w (w.alloc (.cells #[.slice ao zs.length cap] 39)).drew := (Kept.alloc (Below.refl _ _) _).drew
  have c0 := b0.cell 0
  obtain ⟨bb, off, rfl, hc⟩ := hI.at (k := 0) (by omega)
  have hck := hc a (by omega)
  have hbl : bb < w.heap.size := World.block_lt_of_cell? _ _ hck
  have hltI : (a : Int) < (zs.length : Int) := by omega
  have hwd : ∀ u, Kept w u → ∀ k, k < zs.length → u.cell? ⟨bb, off + k, none⟩ = some (.int .i64 (hz zs k)) := fun u hu k hk => (hu.cell (p := ⟨bb, off + k, none⟩) hbl).trans (hc k hk)
  have hIu : ∀ u, Kept w u → Ints u (some ⟨bb, off, none⟩) zs := fun u hu => hI.kept hu
  have hbd := fun k => hI.bd k
  have HS : Hid (scopeR zs a s = scopeK zs a (s - 2)) := rfl
  have H0 : Hid (scopeK zs a 0 = nextR zs (hz zs (a + 1)) 5) := scopeK_zero _ _
  have x0 : ∀ u, Kept (w.alloc (.cells #[.slice (some ⟨bb, off, none⟩) zs.length cap] 39)).drew u → u.cell? ⟨w.heap.size, 0, none⟩ = some (.slice (some ⟨bb, off, none⟩) zs.length cap) := fun u hu => ((b0.kept (Below.refl _ _).drew).kept hu).cell 0
  have y1 : ∀ u, Kept (w.alloc (.cells #[.slice (some ⟨bb, off, none⟩) zs.length cap] 39)).drew u → u.cell? ⟨bb, off + (a + 1), none⟩ = some (.int .i64 (hz zs (a + 1))) := fun u hu => hwd u (k0.trans hu) (a + 1) (by omega)
  have t1 : ((a : Int) + 1).toNat = a + 1 := by omega
  have p1 : (0 : Int) ≤ (a : Int) + 1 := by omega
  have q1 : (a : Int) + 1 < (zs.length : Int) := by omega
  have r1 : IntKind.i64.wrap ((a : Int) + 1) = (a : Int) + 1 := IntWalk.i64_in _ ⟨by omega, by omega⟩
  have hN : Hid (∀ u, Kept (w.alloc (.cells #[.slice (some ⟨bb, off, none⟩) zs.length cap] 39)).drew u → Calls Tryz.prog 189 #[.agg #[.slice (some ⟨bb, off, none⟩) zs.length cap], .int .i64 (hz zs (a + 1)), .int .i64 5] u fun e w' => e = .returned (.bool (nextR zs (hz zs (a + 1)) 5)) ∧ Kept u w') := fun u hu => l3Next_ok u _ cap zs _ 5 (hIu u (k0.trans hu)) hl hok (hbd _).1 (hbd _).2 (by omega)
  have HP : Hid (∀ u, Kept w u → ∀ j, Calls Tryz.prog 191 #[.agg #[.slice (some ⟨bb, off, none⟩) zs.length cap], .int .i64 (hz zs (a + 2 + j))] u fun e w' => e = .returned (.bool (plainR zs (hz zs (a + 2 + j)))) ∧ Kept u w') := fun u hu j => l3Plain_ok u _ cap zs _ (hIu u hu) hl hok (hbd _).1 (hbd _).2
  have HW : Hid (∀ u, Kept w u → ∀ k, k < zs.length → u.cell? ⟨bb, off + k, none⟩ = some (.int .i64 (hz zs k))) := hwd
  clear hwd hc hok hI hIu hbd
  go_enter Tryz.func158, Tryz.ntmps158
  go_wp2_with (first | (go_at_call 29; refine (l2Size_ok _ _).mono ?_; rintro e wx ⟨rfl, rfl⟩) | (go_at_call 121; refine (l2Kind_ok _ _).mono ?_; rintro e wx ⟨rfl, rfl⟩))
  refine wp_region_seqL (by kernel_rfl) (by kernel_rfl) ?_
  repeat (first
    | (refine SeqL.skip (by rfl) ?_; simp only [Act.put, List.setIfInBounds_toArray, List.set_cons_zero, List.set_cons_succ])
    | (refine SeqL.pure ?_ (by rfl) ?_ ?_; rotate_left; (focus (intro u hu; have x0' := x0 u hu; have y1' := y1 u hu; go_simp; first | done | exact rfl)); simp only [Act.put, List.setIfInBounds_toArray, List.set_cons_zero, List.set_cons_succ])
    | (refine SeqL.call _ _ _ (by rfl) ?_ hN.out ?_; (focus (intro u; go_simp; done)); simp only [Act.put, List.setIfInBounds_toArray, List.set_cons_zero, List.set_cons_succ]))
  refine SeqL.nil ?_
  intro u hu
  have bu := (b0.kept (Below.refl _ _).drew).kept hu
  have ku := k0.trans hu
  clear x0 y1 hN c0 b0 k0 hck t1 p1 q1 r1
  go_wp2_with fail
  go_loopw [7, 8] (fun v i wr => ∃ j : Nat, v = .bool (scopeK zs a j) ∧ i = .int .i64 ((j : Int) + 2) ∧ j + 2 ≤ s ∧ Cells wr w.heap.size 39 #[.slice (some ⟨bb, off, none⟩) zs.length cap] ∧ Kept w wr) (fun _ i _ => s - (intOf i).toNat)
  case atStart => exact ⟨0, by rw [H0.out], by simp, by omega, bu, ku⟩
  case round =>
    obtain ⟨j, rfl, rfl, hj, hb, hK⟩ := hrel
    clear bu ku hu
    have HK : Hid (Kept w wr) := hK
    cases hv : scopeK zs a j with
    | false =>
      have HV : Hid (scopeR zs a s = false) := by show _ = _; rw [HS.out]; exact scopeK_false (by omega) hv
      clear hv
      by_cases hlt : (j : Int) + 2 < (s : Int)
      all_goals (
        go_wp2
        go_ret
        exact ⟨by rw [HV.out]; rfl, HK.out⟩)
    | true =>
      by_cases hlt : (j : Int) + 2 < (s : Int)
      · have HN : Hid (scopeK zs a (j + 1) = plainR zs (hz zs (a + 2 + j))) := scopeK_succ hv
        clear hv
        have x0 : ∀ u, Kept wr.drew u → u.cell? ⟨w.heap.size, 0, none⟩ = some (.slice (some ⟨bb, off, none⟩) zs.length cap) := fun u hu => ((hb.kept (Below.refl _ _).drew).kept hu).cell 0
        have y1 : ∀ u, Kept wr.drew u → u.cell? ⟨bb, off + (a + 2 + j), none⟩ = some (.int .i64 (hz zs (a + 2 + j))) := fun u hu => HW.out u (hK.trans (Kept.trans ((Below.refl _ wr).drew) hu)) (a + 2 + j) (by omega)
        have hP : Hid (∀ u, Kept wr.drew u → Calls Tryz.prog 191 #[.agg #[.slice (some ⟨bb, off, none⟩) zs.length cap], .int .i64 (hz zs (a + 2 + j))] u fun e w' => e = .returned (.bool (plainR zs (hz zs (a + 2 + j)))) ∧ Kept u w') := fun u hu => HP.out u (hK.trans (Kept.trans ((Below.refl _ wr).drew) hu)) j
        have t1 : ((a : Int) + ((j : Int) + 2)).toNat = a + 2 + j := by omega
        have p1 : (0 : Int) ≤ (a : Int) + ((j : Int) + 2) := by omega
        have q1 : (a : Int) + ((j : Int) + 2) < (zs.length : Int) := by omega
        have r1 : IntKind.i64.wrap ((a : Int) + ((j : Int) + 2)) = (a : Int) + ((j : Int) + 2) := IntWalk.i64_in _ ⟨by omega, by omega⟩
        go_wp2_with fail
        refine wp_region_seqL (by kernel_rfl) (by kernel_rfl) ?_
        repeat (first
          | (refine SeqL.pure ?_ (by rfl) ?_ ?_; rotate_left; (focus (intro u hu; have x0' := x0 u hu; have y1' := y1 u hu; go_simp; first | done | exact rfl)); simp only [Act.put, List.setIfInBounds_toArray, List.set_cons_zero, List.set_cons_succ])
          | (refine SeqL.call _ _ _ (by rfl) ?_ hP.out ?_; (focus (intro u; go_simp; done)); simp only [Act.put, List.setIfInBounds_toArray, List.set_cons_zero, List.set_cons_succ]))
        refine SeqL.nil ?_
        intro u hu
        have kd := Kept.trans ((Below.refl _ wr).drew) hu
        have hb' := hb.kept kd
        have hK' := hK.trans kd
        clear x0 y1 hP t1 p1 q1 r1 hb hK
        go_wp2_with fail
        go_roundw
        case rel => exact ⟨j + 1, by rw [HN.out], by go_num, by omega, hb', hK'⟩
        case measure => simp [intOf]; omega
      · have HV : Hid (scopeR zs a s = true) := by show _ = _; rw [HS.out, show s - 2 = j by omega]; exact hv
        clear hv
        go_wp2
        go_ret
        exact ⟨by rw [HV.out]; rfl, HK.out⟩
end Go.Proofs.YtgempjjnfpmndaaGreatDoor
