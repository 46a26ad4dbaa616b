/-
  The contract of chapter 3's model of a block's shape, for cells.
-/
import Derived.Test.YtpbafjcoomfooaaGreatShapeJ
namespace Go.Proofs.YtpbafjcoomfooaaGreat
open Go.RowKit
attribute [local go_sem] Plain.and7

set_option maxHeartbeats 16000000 in
set_option maxRecDepth 100000 in
theorem l3Shape_cell (w : World) (ao : Option Addr) (cap : Nat) (zs : List Int) (a s : Nat) (hI : Ints w ao zs) (hl : zs.length ≤ 1048576) (hok : slabOk zs = true) (hle : a + s ≤ zs.length) (hs : 2 ≤ s) (hz8 : hz zs a / 8 = (s : Int)) (hz9 : hz zs a % 8 = 3) :
    Calls Tryz.prog 85 #[.agg #[.slice ao zs.length cap], .int .i64 a] w fun e w' => e = .returned (.bool (cellR zs a s)) ∧ Kept w w' := by
  have b0 := Cells.new w 26 #[.slice ao zs.length cap]
  have k0 : Kept w (w.alloc (.cells #[.slice ao zs.length cap] 26)).drew := (Kept.alloc (Below.refl _ _) _).drew
  have c0 := b0.cell 0
  obtain ⟨bb, off, rfl, hc⟩ := hI.at (k := 0) (by omega)
  have hck := hc a (by omega)
  have hbl : bb < w.heap.size := World.block_lt_of_cell? _ _ hck
  have hltI : (a : Int) < (zs.length : Int) := by omega
  have x0 : ∀ u, Kept (w.alloc (.cells #[.slice (some ⟨bb, off, none⟩) zs.length cap] 26)).drew u → u.cell? ⟨w.heap.size, 0, none⟩ = some (.slice (some ⟨bb, off, none⟩) zs.length cap) := fun u hu => ((b0.kept (Below.refl _ _).drew).kept hu).cell 0
  have hIu : ∀ u, Kept (w.alloc (.cells #[.slice (some ⟨bb, off, none⟩) zs.length cap] 26)).drew u → Ints u (some ⟨bb, off, none⟩) zs := fun u hu => hI.kept (k0.trans hu)
  obtain ⟨v1, hv1⟩ : ∃ v, hz zs (a + 1) = v := ⟨_, rfl⟩
  have hb1 := hI.bd (a + 1)
  rw [hv1] at hb1
  obtain ⟨v2, hv2⟩ : ∃ v, hz zs (a + 2) = v := ⟨_, rfl⟩
  have hb2 := hI.bd (a + 2)
  rw [hv2] at hb2
  obtain ⟨v3, hv3⟩ : ∃ v, hz zs (a + 3) = v := ⟨_, rfl⟩
  have hb3 := hI.bd (a + 3)
  rw [hv3] at hb3
  by_cases hsz : 4 ≤ s ∧ s ≤ 5
  · have y1 : ∀ u, Kept (w.alloc (.cells #[.slice (some ⟨bb, off, none⟩) zs.length cap] 26)).drew u → u.cell? ⟨bb, off + (a + 1), none⟩ = some (.int .i64 v1) := fun u hu => by rw [← hv1]; exact ((k0.trans hu).cell (p := ⟨bb, off + (a + 1), none⟩) hbl).trans (hc (a + 1) (by omega))
    have t1 : ((a : Int) + 1).toNat = a + 1 := by omega
    have p1 : (0 : Int) ≤ (a : Int) + 1 := by omega
    have q1 : (a : Int) + 1 < (zs.length : Int) := by omega
    have r1 : IntKind.i64.wrap ((a : Int) + 1) = (a : Int) + 1 := IntWalk.i64_in _ ⟨by omega, by omega⟩
    have y2 : ∀ u, Kept (w.alloc (.cells #[.slice (some ⟨bb, off, none⟩) zs.length cap] 26)).drew u → u.cell? ⟨bb, off + (a + 2), none⟩ = some (.int .i64 v2) := fun u hu => by rw [← hv2]; exact ((k0.trans hu).cell (p := ⟨bb, off + (a + 2), none⟩) hbl).trans (hc (a + 2) (by omega))
    have t2 : ((a : Int) + 2).toNat = a + 2 := by omega
    have p2 : (0 : Int) ≤ (a : Int) + 2 := by omega
    have q2 : (a : Int) + 2 < (zs.length : Int) := by omega
    have r2 : IntKind.i64.wrap ((a : Int) + 2) = (a : Int) + 2 := IntWalk.i64_in _ ⟨by omega, by omega⟩
    have y3 : ∀ u, Kept (w.alloc (.cells #[.slice (some ⟨bb, off, none⟩) zs.length cap] 26)).drew u → u.cell? ⟨bb, off + (a + 3), none⟩ = some (.int .i64 v3) := fun u hu => by rw [← hv3]; exact ((k0.trans hu).cell (p := ⟨bb, off + (a + 3), none⟩) hbl).trans (hc (a + 3) (by omega))
    have t3 : ((a : Int) + 3).toNat = a + 3 := by omega
    have p3 : (0 : Int) ≤ (a : Int) + 3 := by omega
    have q3 : (a : Int) + 3 < (zs.length : Int) := by omega
    have r3 : IntKind.i64.wrap ((a : Int) + 3) = (a : Int) + 3 := IntWalk.i64_in _ ⟨by omega, by omega⟩
    have r4 : IntKind.i64.wrap ((a : Int) + 4) = (a : Int) + 4 := IntWalk.i64_in _ ⟨by omega, by omega⟩
    have rs : IntKind.i64.wrap ((a : Int) + (s : Int)) = (a : Int) + (s : Int) := IntWalk.i64_in _ ⟨by omega, by omega⟩
    have hZ : Hid (∀ u, Kept (w.alloc (.cells #[.slice (some ⟨bb, off, none⟩) zs.length cap] 26)).drew u → Calls Tryz.prog 126 #[.agg #[.slice (some ⟨bb, off, none⟩) zs.length cap], .int .i64 ((a : Int) + 4), .int .i64 ((a : Int) + (s : Int))] u fun e w' => e = .returned (.bool (zeroR zs (a + 4) (s - 4))) ∧ Kept u w') := fun u hu => l3Zero_ok u (some ⟨bb, off, none⟩) cap zs (a + 4) (s - 4) ((a : Int) + 4) ((a : Int) + (s : Int)) (by omega) (by omega) (hIu u hu) hl (by omega)
    have hIn : Hid (∀ u, Kept (w.alloc (.cells #[.slice (some ⟨bb, off, none⟩) zs.length cap] 26)).drew u → Calls Tryz.prog 124 #[.int .i64 s, .int .i64 4, .int .i64 5] u fun e w' => e = .returned (.bool true) ∧ Kept u w') := fun u hu => calls_kept (l1In_yes _ _ _ _ (by omega) (by omega))
    have hK1 : Hid (∀ u, Kept (w.alloc (.cells #[.slice (some ⟨bb, off, none⟩) zs.length cap] 26)).drew u → Calls Tryz.prog 50 #[.int .i64 v1] u fun e w' => e = .returned (.int .i64 (v1 % 8)) ∧ Kept u w') := fun u hu => calls_kept (spec_Kind_ok _ _)
    by_cases g0 : v1 % 8 = 4
    · have e4 : (v1 % 8 == 4) = true := by simp [g0]
      have hC1 := fun (u : World) (hu : Kept (w.alloc (.cells #[.slice (some ⟨bb, off, none⟩) zs.length cap] 26)).drew u) => l3Leads_ok u _ cap zs v1 0 (hIu u hu) hl hok hb1.1 hb1.2 (by omega)
      cases g1 : leadsR zs v1 0 with
      | false =>
        have HR : Hid (cellR zs a s = false) := by simp [Hid, cellR, hsz, hv1, hv2, hv3, g0, g1]
        have hD1 : Hid (∀ u, Kept (w.alloc (.cells #[.slice (some ⟨bb, off, none⟩) zs.length cap] 26)).drew u → Calls Tryz.prog 51 #[.agg #[.slice (some ⟨bb, off, none⟩) zs.length cap], .int .i64 v1, .int .i64 0] u fun e w' => e = .returned (.bool false) ∧ Kept u w') := fun u hu => by have := hC1 u hu; rw [g1] at this; exact this
        clear hc hok hI hIu hv1 hb1 hv2 hb2 hv3 hb3 hsz g1 hC1 g0
        go_enter Tryz.func85, Tryz.ntmps85
        go_wp2_with (first | (go_at_call 95; refine (l2Size_ok _ _).mono ?_; rintro e wx ⟨rfl, rfl⟩) | (go_at_call 96; refine (l2Kind_ok _ _).mono ?_; rintro e wx ⟨rfl, rfl⟩))
        refine wp_region_seqL (by kernel_rfl) (by kernel_rfl) ?_
        repeat (first
          | (refine SeqL.skip (by rfl) ?_; simp only [Act.put, List.setIfInBounds_toArray, List.set_cons_zero, List.set_cons_succ])
          | (refine SeqL.pure ?_ (by rfl) ?_ ?_; rotate_left; (focus (intro u hu; have x0' := x0 u hu; have y1' := y1 u hu; have y2' := y2 u hu; have y3' := y3 u hu; go_simp; first | done | exact rfl)); simp only [Act.put, List.setIfInBounds_toArray, List.set_cons_zero, List.set_cons_succ])
          | (refine SeqL.call _ _ _ (by rfl) ?_ hIn.out ?_; (focus (intro u; go_simp; done)); simp only [Act.put, List.setIfInBounds_toArray, List.set_cons_zero, List.set_cons_succ])
          | (refine SeqL.call _ _ _ (by rfl) ?_ hZ.out ?_; (focus (intro u; go_simp; done)); simp only [Act.put, List.setIfInBounds_toArray, List.set_cons_zero, List.set_cons_succ])
          | (refine SeqL.call _ _ _ (by rfl) ?_ hK1.out ?_; (focus (intro u; go_simp; done)); simp only [Act.put, List.setIfInBounds_toArray, List.set_cons_zero, List.set_cons_succ])
          | (refine SeqL.call _ _ _ (by rfl) ?_ hD1.out ?_; (focus (intro u; go_simp; done)); simp only [Act.put, List.setIfInBounds_toArray, List.set_cons_zero, List.set_cons_succ]))
        refine SeqL.nil ?_
        intro u hu
        go_wp2
        go_ret
        exact ⟨by rw [HR.out]; rfl, k0.trans hu⟩
      | true =>
        have hD1 : Hid (∀ u, Kept (w.alloc (.cells #[.slice (some ⟨bb, off, none⟩) zs.length cap] 26)).drew u → Calls Tryz.prog 51 #[.agg #[.slice (some ⟨bb, off, none⟩) zs.length cap], .int .i64 v1, .int .i64 0] u fun e w' => e = .returned (.bool true) ∧ Kept u w') := fun u hu => by have := hC1 u hu; rw [g1] at this; exact this
        have hC2 := fun (u : World) (hu : Kept (w.alloc (.cells #[.slice (some ⟨bb, off, none⟩) zs.length cap] 26)).drew u) => l3Plain_ok u _ cap zs v2 (hIu u hu) hl hok hb2.1 hb2.2
        cases g2 : plainR zs v2 with
        | false =>
          have HR : Hid (cellR zs a s = false) := by simp [Hid, cellR, hsz, hv1, hv2, hv3, g0, g1, g2]
          have hD2 : Hid (∀ u, Kept (w.alloc (.cells #[.slice (some ⟨bb, off, none⟩) zs.length cap] 26)).drew u → Calls Tryz.prog 127 #[.agg #[.slice (some ⟨bb, off, none⟩) zs.length cap], .int .i64 v2] u fun e w' => e = .returned (.bool false) ∧ Kept u w') := fun u hu => by have := hC2 u hu; rw [g2] at this; exact this
          clear hc hok hI hIu hv1 hb1 hv2 hb2 hv3 hb3 hsz g2 hC2 g0 g1 hC1
          go_enter Tryz.func85, Tryz.ntmps85
          go_wp2_with (first | (go_at_call 95; refine (l2Size_ok _ _).mono ?_; rintro e wx ⟨rfl, rfl⟩) | (go_at_call 96; refine (l2Kind_ok _ _).mono ?_; rintro e wx ⟨rfl, rfl⟩))
          refine wp_region_seqL (by kernel_rfl) (by kernel_rfl) ?_
          repeat (first
            | (refine SeqL.skip (by rfl) ?_; simp only [Act.put, List.setIfInBounds_toArray, List.set_cons_zero, List.set_cons_succ])
            | (refine SeqL.pure ?_ (by rfl) ?_ ?_; rotate_left; (focus (intro u hu; have x0' := x0 u hu; have y1' := y1 u hu; have y2' := y2 u hu; have y3' := y3 u hu; go_simp; first | done | exact rfl)); simp only [Act.put, List.setIfInBounds_toArray, List.set_cons_zero, List.set_cons_succ])
            | (refine SeqL.call _ _ _ (by rfl) ?_ hIn.out ?_; (focus (intro u; go_simp; done)); simp only [Act.put, List.setIfInBounds_toArray, List.set_cons_zero, List.set_cons_succ])
            | (refine SeqL.call _ _ _ (by rfl) ?_ hZ.out ?_; (focus (intro u; go_simp; done)); simp only [Act.put, List.setIfInBounds_toArray, List.set_cons_zero, List.set_cons_succ])
            | (refine SeqL.call _ _ _ (by rfl) ?_ hK1.out ?_; (focus (intro u; go_simp; done)); simp only [Act.put, List.setIfInBounds_toArray, List.set_cons_zero, List.set_cons_succ])
            | (refine SeqL.call _ _ _ (by rfl) ?_ hD1.out ?_; (focus (intro u; go_simp; done)); simp only [Act.put, List.setIfInBounds_toArray, List.set_cons_zero, List.set_cons_succ])
            | (refine SeqL.call _ _ _ (by rfl) ?_ hD2.out ?_; (focus (intro u; go_simp; done)); simp only [Act.put, List.setIfInBounds_toArray, List.set_cons_zero, List.set_cons_succ]))
          refine SeqL.nil ?_
          intro u hu
          go_wp2
          go_ret
          exact ⟨by rw [HR.out]; rfl, k0.trans hu⟩
        | true =>
          have hD2 : Hid (∀ u, Kept (w.alloc (.cells #[.slice (some ⟨bb, off, none⟩) zs.length cap] 26)).drew u → Calls Tryz.prog 127 #[.agg #[.slice (some ⟨bb, off, none⟩) zs.length cap], .int .i64 v2] u fun e w' => e = .returned (.bool true) ∧ Kept u w') := fun u hu => by have := hC2 u hu; rw [g2] at this; exact this
          have hC3 := fun (u : World) (hu : Kept (w.alloc (.cells #[.slice (some ⟨bb, off, none⟩) zs.length cap] 26)).drew u) => l3Next_ok u _ cap zs v3 3 (hIu u hu) hl hok hb3.1 hb3.2 (by omega)
          cases g3 : nextR zs v3 3 with
          | false =>
            have HR : Hid (cellR zs a s = false) := by simp [Hid, cellR, hsz, hv1, hv2, hv3, g0, g1, g2, g3]
            have hD3 : Hid (∀ u, Kept (w.alloc (.cells #[.slice (some ⟨bb, off, none⟩) zs.length cap] 26)).drew u → Calls Tryz.prog 125 #[.agg #[.slice (some ⟨bb, off, none⟩) zs.length cap], .int .i64 v3, .int .i64 3] u fun e w' => e = .returned (.bool false) ∧ Kept u w') := fun u hu => by have := hC3 u hu; rw [g3] at this; exact this
            clear hc hok hI hIu hv1 hb1 hv2 hb2 hv3 hb3 hsz g3 hC3 g0 g1 hC1 g2 hC2
            go_enter Tryz.func85, Tryz.ntmps85
            go_wp2_with (first | (go_at_call 95; refine (l2Size_ok _ _).mono ?_; rintro e wx ⟨rfl, rfl⟩) | (go_at_call 96; refine (l2Kind_ok _ _).mono ?_; rintro e wx ⟨rfl, rfl⟩))
            refine wp_region_seqL (by kernel_rfl) (by kernel_rfl) ?_
            repeat (first
              | (refine SeqL.skip (by rfl) ?_; simp only [Act.put, List.setIfInBounds_toArray, List.set_cons_zero, List.set_cons_succ])
              | (refine SeqL.pure ?_ (by rfl) ?_ ?_; rotate_left; (focus (intro u hu; have x0' := x0 u hu; have y1' := y1 u hu; have y2' := y2 u hu; have y3' := y3 u hu; go_simp; first | done | exact rfl)); simp only [Act.put, List.setIfInBounds_toArray, List.set_cons_zero, List.set_cons_succ])
              | (refine SeqL.call _ _ _ (by rfl) ?_ hIn.out ?_; (focus (intro u; go_simp; done)); simp only [Act.put, List.setIfInBounds_toArray, List.set_cons_zero, List.set_cons_succ])
              | (refine SeqL.call _ _ _ (by rfl) ?_ hZ.out ?_; (focus (intro u; go_simp; done)); simp only [Act.put, List.setIfInBounds_toArray, List.set_cons_zero, List.set_cons_succ])
              | (refine SeqL.call _ _ _ (by rfl) ?_ hK1.out ?_; (focus (intro u; go_simp; done)); simp only [Act.put, List.setIfInBounds_toArray, List.set_cons_zero, List.set_cons_succ])
              | (refine SeqL.call _ _ _ (by rfl) ?_ hD1.out ?_; (focus (intro u; go_simp; done)); simp only [Act.put, List.setIfInBounds_toArray, List.set_cons_zero, List.set_cons_succ])
              | (refine SeqL.call _ _ _ (by rfl) ?_ hD2.out ?_; (focus (intro u; go_simp; done)); simp only [Act.put, List.setIfInBounds_toArray, List.set_cons_zero, List.set_cons_succ])
              | (refine SeqL.call _ _ _ (by rfl) ?_ hD3.out ?_; (focus (intro u; go_simp; done)); simp only [Act.put, List.setIfInBounds_toArray, List.set_cons_zero, List.set_cons_succ]))
            refine SeqL.nil ?_
            intro u hu
            go_wp2
            go_ret
            exact ⟨by rw [HR.out]; rfl, k0.trans hu⟩
          | true =>
            have hD3 : Hid (∀ u, Kept (w.alloc (.cells #[.slice (some ⟨bb, off, none⟩) zs.length cap] 26)).drew u → Calls Tryz.prog 125 #[.agg #[.slice (some ⟨bb, off, none⟩) zs.length cap], .int .i64 v3, .int .i64 3] u fun e w' => e = .returned (.bool true) ∧ Kept u w') := fun u hu => by have := hC3 u hu; rw [g3] at this; exact this
            have HR : Hid (cellR zs a s = zeroR zs (a + 4) (s - 4)) := by simp [Hid, cellR, hsz, hv1, hv2, hv3, g0, g1, g2, g3]
            clear hc hok hI hIu hv1 hb1 hv2 hb2 hv3 hb3 g0 g1 hC1 g2 hC2 g3 hC3 hsz
            go_enter Tryz.func85, Tryz.ntmps85
            go_wp2_with (first | (go_at_call 95; refine (l2Size_ok _ _).mono ?_; rintro e wx ⟨rfl, rfl⟩) | (go_at_call 96; refine (l2Kind_ok _ _).mono ?_; rintro e wx ⟨rfl, rfl⟩))
            refine wp_region_seqL (by kernel_rfl) (by kernel_rfl) ?_
            repeat (first
              | (refine SeqL.skip (by rfl) ?_; simp only [Act.put, List.setIfInBounds_toArray, List.set_cons_zero, List.set_cons_succ])
              | (refine SeqL.pure ?_ (by rfl) ?_ ?_; rotate_left; (focus (intro u hu; have x0' := x0 u hu; have y1' := y1 u hu; have y2' := y2 u hu; have y3' := y3 u hu; go_simp; first | done | exact rfl)); simp only [Act.put, List.setIfInBounds_toArray, List.set_cons_zero, List.set_cons_succ])
              | (refine SeqL.call _ _ _ (by rfl) ?_ hIn.out ?_; (focus (intro u; go_simp; done)); simp only [Act.put, List.setIfInBounds_toArray, List.set_cons_zero, List.set_cons_succ])
              | (refine SeqL.call _ _ _ (by rfl) ?_ hZ.out ?_; (focus (intro u; go_simp; done)); simp only [Act.put, List.setIfInBounds_toArray, List.set_cons_zero, List.set_cons_succ])
              | (refine SeqL.call _ _ _ (by rfl) ?_ hK1.out ?_; (focus (intro u; go_simp; done)); simp only [Act.put, List.setIfInBounds_toArray, List.set_cons_zero, List.set_cons_succ])
              | (refine SeqL.call _ _ _ (by rfl) ?_ hD1.out ?_; (focus (intro u; go_simp; done)); simp only [Act.put, List.setIfInBounds_toArray, List.set_cons_zero, List.set_cons_succ])
              | (refine SeqL.call _ _ _ (by rfl) ?_ hD2.out ?_; (focus (intro u; go_simp; done)); simp only [Act.put, List.setIfInBounds_toArray, List.set_cons_zero, List.set_cons_succ])
              | (refine SeqL.call _ _ _ (by rfl) ?_ hD3.out ?_; (focus (intro u; go_simp; done)); simp only [Act.put, List.setIfInBounds_toArray, List.set_cons_zero, List.set_cons_succ]))
            refine SeqL.nil ?_
            intro u hu
            go_wp2
            go_ret
            exact ⟨by rw [HR.out]; rfl, k0.trans hu⟩
    · have HR : Hid (cellR zs a s = false) := by simp [Hid, cellR, hsz, hv1, hv2, hv3, g0]
      have e4 : (v1 % 8 == 4) = false := by simpa using g0
      clear hc hok hI hIu hv1 hb1 hv2 hb2 hv3 hb3 hsz g0
      go_enter Tryz.func85, Tryz.ntmps85
      go_wp2_with (first | (go_at_call 95; refine (l2Size_ok _ _).mono ?_; rintro e wx ⟨rfl, rfl⟩) | (go_at_call 96; refine (l2Kind_ok _ _).mono ?_; rintro e wx ⟨rfl, rfl⟩))
      refine wp_region_seqL (by kernel_rfl) (by kernel_rfl) ?_
      repeat (first
        | (refine SeqL.skip (by rfl) ?_; simp only [Act.put, List.setIfInBounds_toArray, List.set_cons_zero, List.set_cons_succ])
        | (refine SeqL.pure ?_ (by rfl) ?_ ?_; rotate_left; (focus (intro u hu; have x0' := x0 u hu; have y1' := y1 u hu; have y2' := y2 u hu; have y3' := y3 u hu; go_simp; first | done | exact rfl)); simp only [Act.put, List.setIfInBounds_toArray, List.set_cons_zero, List.set_cons_succ])
        | (refine SeqL.call _ _ _ (by rfl) ?_ hIn.out ?_; (focus (intro u; go_simp; done)); simp only [Act.put, List.setIfInBounds_toArray, List.set_cons_zero, List.set_cons_succ])
        | (refine SeqL.call _ _ _ (by rfl) ?_ hZ.out ?_; (focus (intro u; go_simp; done)); simp only [Act.put, List.setIfInBounds_toArray, List.set_cons_zero, List.set_cons_succ])
        | (refine SeqL.call _ _ _ (by rfl) ?_ hK1.out ?_; (focus (intro u; go_simp; done)); simp only [Act.put, List.setIfInBounds_toArray, List.set_cons_zero, List.set_cons_succ]))
      refine SeqL.nil ?_
      intro u hu
      go_wp2
      go_ret
      exact ⟨by rw [HR.out]; rfl, k0.trans hu⟩
  · have HR : Hid (cellR zs a s = false) := by simp [Hid, cellR, hsz]
    have hIn : Hid (∀ u, Kept (w.alloc (.cells #[.slice (some ⟨bb, off, none⟩) zs.length cap] 26)).drew u → Calls Tryz.prog 124 #[.int .i64 s, .int .i64 4, .int .i64 5] u fun e w' => e = .returned (.bool false) ∧ Kept u w') := fun u hu => calls_kept (l1In_no _ _ _ _ (by omega))
    clear hc hok hI hIu hv1 hb1 hv2 hb2 hv3 hb3 hsz
    go_enter Tryz.func85, Tryz.ntmps85
    go_wp2_with (first | (go_at_call 95; refine (l2Size_ok _ _).mono ?_; rintro e wx ⟨rfl, rfl⟩) | (go_at_call 96; refine (l2Kind_ok _ _).mono ?_; rintro e wx ⟨rfl, rfl⟩))
    refine wp_region_seqL (by kernel_rfl) (by kernel_rfl) ?_
    repeat (first
      | (refine SeqL.skip (by rfl) ?_; simp only [Act.put, List.setIfInBounds_toArray, List.set_cons_zero, List.set_cons_succ])
      | (refine SeqL.pure ?_ (by rfl) ?_ ?_; rotate_left; (focus (intro u hu; skip; go_simp; first | done | exact rfl)); simp only [Act.put, List.setIfInBounds_toArray, List.set_cons_zero, List.set_cons_succ])
      | (refine SeqL.call _ _ _ (by rfl) ?_ hIn.out ?_; (focus (intro u; go_simp; done)); simp only [Act.put, List.setIfInBounds_toArray, List.set_cons_zero, List.set_cons_succ]))
    refine SeqL.nil ?_
    intro u hu
    go_wp2
    go_ret
    exact ⟨by rw [HR.out]; rfl, k0.trans hu⟩
end Go.Proofs.YtpbafjcoomfooaaGreat
