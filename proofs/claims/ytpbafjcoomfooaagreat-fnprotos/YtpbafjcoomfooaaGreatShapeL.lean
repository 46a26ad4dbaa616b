/-
  The contract of chapter 3's model of a block's shape, for objects.
-/
import Derived.Test.YtpbafjcoomfooaaGreatShapeJ
namespace Go.Proofs.YtpbafjcoomfooaaGreat
open Go.RowKit
attribute [local go_sem] Plain.and7

set_option maxHeartbeats 16000000 in
set_option maxRecDepth 100000 in
theorem l3Shape_obj (w : World) (ao : Option Addr) (cap : Nat) (zs : List Int) (a s : Nat) (hI : Ints w ao zs) (hl : zs.length ≤ 1048576) (hok : slabOk zs = true) (hle : a + s ≤ zs.length) (hs : 2 ≤ s) (hz8 : hz zs a / 8 = (s : Int)) (hz9 : hz zs a % 8 = 2) :
    Calls Tryz.prog 85 #[.agg #[.slice ao zs.length cap], .int .i64 a] w fun e w' => e = .returned (.bool (objR zs a s)) ∧ Kept w w' := by
  have b0 := Cells.new w 26 #[.slice ao zs.length cap]
  have k0 : Kept w (w.alloc (.cells #[.slice ao zs.length cap] 26)).drew := (Kept.alloc (Below.refl _ _) _).drew
  have c0 := b0.cell 0
  obtain ⟨bb, off, rfl, hc⟩ := hI.at (k := 0) (by omega)
  have hck := hc a (by omega)
  have hbl : bb < w.heap.size := World.block_lt_of_cell? _ _ hck
  have hltI : (a : Int) < (zs.length : Int) := by omega
  have x0 : ∀ u, Kept (w.alloc (.cells #[.slice (some ⟨bb, off, none⟩) zs.length cap] 26)).drew u → u.cell? ⟨w.heap.size, 0, none⟩ = some (.slice (some ⟨bb, off, none⟩) zs.length cap) := fun u hu => ((b0.kept (Below.refl _ _).drew).kept hu).cell 0
  have hIu : ∀ u, Kept (w.alloc (.cells #[.slice (some ⟨bb, off, none⟩) zs.length cap] 26)).drew u → Ints u (some ⟨bb, off, none⟩) zs := fun u hu => hI.kept (k0.trans hu)
  obtain ⟨v1, hv1⟩ : ∃ v, hz zs (a + 1) = v := ⟨_, rfl⟩
  have hb1 := hI.bd (a + 1)
  rw [hv1] at hb1
  obtain ⟨v2, hv2⟩ : ∃ v, hz zs (a + 2) = v := ⟨_, rfl⟩
  have hb2 := hI.bd (a + 2)
  rw [hv2] at hb2
  by_cases hsz : 3 ≤ s ∧ s ≤ 4
  · have y1 : ∀ u, Kept (w.alloc (.cells #[.slice (some ⟨bb, off, none⟩) zs.length cap] 26)).drew u → u.cell? ⟨bb, off + (a + 1), none⟩ = some (.int .i64 v1) := fun u hu => by rw [← hv1]; exact ((k0.trans hu).cell (p := ⟨bb, off + (a + 1), none⟩) hbl).trans (hc (a + 1) (by omega))
    have t1 : ((a : Int) + 1).toNat = a + 1 := by omega
    have p1 : (0 : Int) ≤ (a : Int) + 1 := by omega
    have q1 : (a : Int) + 1 < (zs.length : Int) := by omega
    have r1 : IntKind.i64.wrap ((a : Int) + 1) = (a : Int) + 1 := IntWalk.i64_in _ ⟨by omega, by omega⟩
    have y2 : ∀ u, Kept (w.alloc (.cells #[.slice (some ⟨bb, off, none⟩) zs.length cap] 26)).drew u → u.cell? ⟨bb, off + (a + 2), none⟩ = some (.int .i64 v2) := fun u hu => by rw [← hv2]; exact ((k0.trans hu).cell (p := ⟨bb, off + (a + 2), none⟩) hbl).trans (hc (a + 2) (by omega))
    have t2 : ((a : Int) + 2).toNat = a + 2 := by omega
    have p2 : (0 : Int) ≤ (a : Int) + 2 := by omega
    have q2 : (a : Int) + 2 < (zs.length : Int) := by omega
    have r2 : IntKind.i64.wrap ((a : Int) + 2) = (a : Int) + 2 := IntWalk.i64_in _ ⟨by omega, by omega⟩
    have r3 : IntKind.i64.wrap ((a : Int) + 3) = (a : Int) + 3 := IntWalk.i64_in _ ⟨by omega, by omega⟩
    have rs : IntKind.i64.wrap ((a : Int) + (s : Int)) = (a : Int) + (s : Int) := IntWalk.i64_in _ ⟨by omega, by omega⟩
    have hZ : Hid (∀ u, Kept (w.alloc (.cells #[.slice (some ⟨bb, off, none⟩) zs.length cap] 26)).drew u → Calls Tryz.prog 126 #[.agg #[.slice (some ⟨bb, off, none⟩) zs.length cap], .int .i64 ((a : Int) + 3), .int .i64 ((a : Int) + (s : Int))] u fun e w' => e = .returned (.bool (zeroR zs (a + 3) (s - 3))) ∧ Kept u w') := fun u hu => l3Zero_ok u (some ⟨bb, off, none⟩) cap zs (a + 3) (s - 3) ((a : Int) + 3) ((a : Int) + (s : Int)) (by omega) (by omega) (hIu u hu) hl (by omega)
    have hIn : Hid (∀ u, Kept (w.alloc (.cells #[.slice (some ⟨bb, off, none⟩) zs.length cap] 26)).drew u → Calls Tryz.prog 124 #[.int .i64 s, .int .i64 3, .int .i64 4] u fun e w' => e = .returned (.bool true) ∧ Kept u w') := fun u hu => calls_kept (l1In_yes _ _ _ _ (by omega) (by omega))
    have hK1 : Hid (∀ u, Kept (w.alloc (.cells #[.slice (some ⟨bb, off, none⟩) zs.length cap] 26)).drew u → Calls Tryz.prog 50 #[.int .i64 v1] u fun e w' => e = .returned (.int .i64 (v1 % 8)) ∧ Kept u w') := fun u hu => calls_kept (spec_Kind_ok _ _)
    by_cases hp : v1 = 1
    · have f1 : (v1 == 1) = true := by simp [hp]
      have hC2 := fun (u : World) (hu : Kept (w.alloc (.cells #[.slice (some ⟨bb, off, none⟩) zs.length cap] 26)).drew u) => l3Next_ok u _ cap zs v2 3 (hIu u hu) hl hok hb2.1 hb2.2 (by omega)
      cases g2 : nextR zs v2 3 with
      | false =>
        have HR : Hid (objR zs a s = false) := by simp [Hid, objR, hsz, hv1, hv2, hp, g2]
        have hD2 : Hid (∀ u, Kept (w.alloc (.cells #[.slice (some ⟨bb, off, none⟩) zs.length cap] 26)).drew u → Calls Tryz.prog 125 #[.agg #[.slice (some ⟨bb, off, none⟩) zs.length cap], .int .i64 v2, .int .i64 3] u fun e w' => e = .returned (.bool false) ∧ Kept u w') := fun u hu => by have := hC2 u hu; rw [g2] at this; exact this
        clear hc hok hI hIu hv1 hb1 hv2 hb2 hsz g2 hC2 hp
        go_enter Tryz.func85, Tryz.ntmps85
        go_wp2_with (first | (go_at_call 95; refine (l2Size_ok _ _).mono ?_; rintro e wx ⟨rfl, rfl⟩) | (go_at_call 96; refine (l2Kind_ok _ _).mono ?_; rintro e wx ⟨rfl, rfl⟩))
        refine wp_region_seqL (by kernel_rfl) (by kernel_rfl) ?_
        repeat (first
          | (refine SeqL.skip (by rfl) ?_; simp only [Act.put, List.setIfInBounds_toArray, List.set_cons_zero, List.set_cons_succ])
          | (refine SeqL.pure ?_ (by rfl) ?_ ?_; rotate_left; (focus (intro u hu; have x0' := x0 u hu; have y1' := y1 u hu; have y2' := y2 u hu; go_simp; first | done | exact rfl)); simp only [Act.put, List.setIfInBounds_toArray, List.set_cons_zero, List.set_cons_succ])
          | (refine SeqL.call _ _ _ (by rfl) ?_ hIn.out ?_; (focus (intro u; go_simp; done)); simp only [Act.put, List.setIfInBounds_toArray, List.set_cons_zero, List.set_cons_succ])
          | (refine SeqL.call _ _ _ (by rfl) ?_ hZ.out ?_; (focus (intro u; go_simp; done)); simp only [Act.put, List.setIfInBounds_toArray, List.set_cons_zero, List.set_cons_succ])
          | (refine SeqL.call _ _ _ (by rfl) ?_ hK1.out ?_; (focus (intro u; go_simp; done)); simp only [Act.put, List.setIfInBounds_toArray, List.set_cons_zero, List.set_cons_succ])
          | (refine SeqL.call _ _ _ (by rfl) ?_ hD2.out ?_; (focus (intro u; go_simp; done)); simp only [Act.put, List.setIfInBounds_toArray, List.set_cons_zero, List.set_cons_succ]))
        refine SeqL.nil ?_
        intro u hu
        go_wp2
        go_ret
        exact ⟨by rw [HR.out]; rfl, k0.trans hu⟩
      | true =>
        have hD2 : Hid (∀ u, Kept (w.alloc (.cells #[.slice (some ⟨bb, off, none⟩) zs.length cap] 26)).drew u → Calls Tryz.prog 125 #[.agg #[.slice (some ⟨bb, off, none⟩) zs.length cap], .int .i64 v2, .int .i64 3] u fun e w' => e = .returned (.bool true) ∧ Kept u w') := fun u hu => by have := hC2 u hu; rw [g2] at this; exact this
        have HR : Hid (objR zs a s = zeroR zs (a + 3) (s - 3)) := by simp [Hid, objR, hsz, hv1, hv2, hp, g2]
        clear hc hok hI hIu hv1 hb1 hv2 hb2 hp g2 hC2 hsz
        go_enter Tryz.func85, Tryz.ntmps85
        go_wp2_with (first | (go_at_call 95; refine (l2Size_ok _ _).mono ?_; rintro e wx ⟨rfl, rfl⟩) | (go_at_call 96; refine (l2Kind_ok _ _).mono ?_; rintro e wx ⟨rfl, rfl⟩))
        refine wp_region_seqL (by kernel_rfl) (by kernel_rfl) ?_
        repeat (first
          | (refine SeqL.skip (by rfl) ?_; simp only [Act.put, List.setIfInBounds_toArray, List.set_cons_zero, List.set_cons_succ])
          | (refine SeqL.pure ?_ (by rfl) ?_ ?_; rotate_left; (focus (intro u hu; have x0' := x0 u hu; have y1' := y1 u hu; have y2' := y2 u hu; go_simp; first | done | exact rfl)); simp only [Act.put, List.setIfInBounds_toArray, List.set_cons_zero, List.set_cons_succ])
          | (refine SeqL.call _ _ _ (by rfl) ?_ hIn.out ?_; (focus (intro u; go_simp; done)); simp only [Act.put, List.setIfInBounds_toArray, List.set_cons_zero, List.set_cons_succ])
          | (refine SeqL.call _ _ _ (by rfl) ?_ hZ.out ?_; (focus (intro u; go_simp; done)); simp only [Act.put, List.setIfInBounds_toArray, List.set_cons_zero, List.set_cons_succ])
          | (refine SeqL.call _ _ _ (by rfl) ?_ hK1.out ?_; (focus (intro u; go_simp; done)); simp only [Act.put, List.setIfInBounds_toArray, List.set_cons_zero, List.set_cons_succ])
          | (refine SeqL.call _ _ _ (by rfl) ?_ hD2.out ?_; (focus (intro u; go_simp; done)); simp only [Act.put, List.setIfInBounds_toArray, List.set_cons_zero, List.set_cons_succ]))
        refine SeqL.nil ?_
        intro u hu
        go_wp2
        go_ret
        exact ⟨by rw [HR.out]; rfl, k0.trans hu⟩
    · have f1 : (v1 == 1) = false := by simpa using hp
      by_cases g0 : v1 % 8 = 5
      · have e5 : (v1 % 8 == 5) = true := by simp [g0]
        have hC1 := fun (u : World) (hu : Kept (w.alloc (.cells #[.slice (some ⟨bb, off, none⟩) zs.length cap] 26)).drew u) => l3Leads_ok u _ cap zs v1 0 (hIu u hu) hl hok hb1.1 hb1.2 (by omega)
        cases g1 : leadsR zs v1 0 with
        | false =>
          have HR : Hid (objR zs a s = false) := by simp [Hid, objR, hsz, hv1, hv2, hp, g0, g1]
          have hD1 : Hid (∀ u, Kept (w.alloc (.cells #[.slice (some ⟨bb, off, none⟩) zs.length cap] 26)).drew u → Calls Tryz.prog 51 #[.agg #[.slice (some ⟨bb, off, none⟩) zs.length cap], .int .i64 v1, .int .i64 0] u fun e w' => e = .returned (.bool false) ∧ Kept u w') := fun u hu => by have := hC1 u hu; rw [g1] at this; exact this
          clear hc hok hI hIu hv1 hb1 hv2 hb2 hsz g1 hC1 hp g0
          go_enter Tryz.func85, Tryz.ntmps85
          go_wp2_with (first | (go_at_call 95; refine (l2Size_ok _ _).mono ?_; rintro e wx ⟨rfl, rfl⟩) | (go_at_call 96; refine (l2Kind_ok _ _).mono ?_; rintro e wx ⟨rfl, rfl⟩))
          refine wp_region_seqL (by kernel_rfl) (by kernel_rfl) ?_
          repeat (first
            | (refine SeqL.skip (by rfl) ?_; simp only [Act.put, List.setIfInBounds_toArray, List.set_cons_zero, List.set_cons_succ])
            | (refine SeqL.pure ?_ (by rfl) ?_ ?_; rotate_left; (focus (intro u hu; have x0' := x0 u hu; have y1' := y1 u hu; have y2' := y2 u hu; go_simp; first | done | exact rfl)); simp only [Act.put, List.setIfInBounds_toArray, List.set_cons_zero, List.set_cons_succ])
            | (refine SeqL.call _ _ _ (by rfl) ?_ hIn.out ?_; (focus (intro u; go_simp; done)); simp only [Act.put, List.setIfInBounds_toArray, List.set_cons_zero, List.set_cons_succ])
            | (refine SeqL.call _ _ _ (by rfl) ?_ hZ.out ?_; (focus (intro u; go_simp; done)); simp only [Act.put, List.setIfInBounds_toArray, List.set_cons_zero, List.set_cons_succ])
            | (refine SeqL.call _ _ _ (by rfl) ?_ hK1.out ?_; (focus (intro u; go_simp; done)); simp only [Act.put, List.setIfInBounds_toArray, List.set_cons_zero, List.set_cons_succ])
            | (refine SeqL.call _ _ _ (by rfl) ?_ hD1.out ?_; (focus (intro u; go_simp; done)); simp only [Act.put, List.setIfInBounds_toArray, List.set_cons_zero, List.set_cons_succ]))
          refine SeqL.nil ?_
          intro u hu
          go_wp2
          go_ret
          exact ⟨by rw [HR.out]; rfl, k0.trans hu⟩
        | true =>
          have hD1 : Hid (∀ u, Kept (w.alloc (.cells #[.slice (some ⟨bb, off, none⟩) zs.length cap] 26)).drew u → Calls Tryz.prog 51 #[.agg #[.slice (some ⟨bb, off, none⟩) zs.length cap], .int .i64 v1, .int .i64 0] u fun e w' => e = .returned (.bool true) ∧ Kept u w') := fun u hu => by have := hC1 u hu; rw [g1] at this; exact this
          have hC2 := fun (u : World) (hu : Kept (w.alloc (.cells #[.slice (some ⟨bb, off, none⟩) zs.length cap] 26)).drew u) => l3Next_ok u _ cap zs v2 3 (hIu u hu) hl hok hb2.1 hb2.2 (by omega)
          cases g2 : nextR zs v2 3 with
          | false =>
            have HR : Hid (objR zs a s = false) := by simp [Hid, objR, hsz, hv1, hv2, hp, g0, g1, g2]
            have hD2 : Hid (∀ u, Kept (w.alloc (.cells #[.slice (some ⟨bb, off, none⟩) zs.length cap] 26)).drew u → Calls Tryz.prog 125 #[.agg #[.slice (some ⟨bb, off, none⟩) zs.length cap], .int .i64 v2, .int .i64 3] u fun e w' => e = .returned (.bool false) ∧ Kept u w') := fun u hu => by have := hC2 u hu; rw [g2] at this; exact this
            clear hc hok hI hIu hv1 hb1 hv2 hb2 hsz g2 hC2 hp g0 g1 hC1
            go_enter Tryz.func85, Tryz.ntmps85
            go_wp2_with (first | (go_at_call 95; refine (l2Size_ok _ _).mono ?_; rintro e wx ⟨rfl, rfl⟩) | (go_at_call 96; refine (l2Kind_ok _ _).mono ?_; rintro e wx ⟨rfl, rfl⟩))
            refine wp_region_seqL (by kernel_rfl) (by kernel_rfl) ?_
            repeat (first
              | (refine SeqL.skip (by rfl) ?_; simp only [Act.put, List.setIfInBounds_toArray, List.set_cons_zero, List.set_cons_succ])
              | (refine SeqL.pure ?_ (by rfl) ?_ ?_; rotate_left; (focus (intro u hu; have x0' := x0 u hu; have y1' := y1 u hu; have y2' := y2 u hu; go_simp; first | done | exact rfl)); simp only [Act.put, List.setIfInBounds_toArray, List.set_cons_zero, List.set_cons_succ])
              | (refine SeqL.call _ _ _ (by rfl) ?_ hIn.out ?_; (focus (intro u; go_simp; done)); simp only [Act.put, List.setIfInBounds_toArray, List.set_cons_zero, List.set_cons_succ])
              | (refine SeqL.call _ _ _ (by rfl) ?_ hZ.out ?_; (focus (intro u; go_simp; done)); simp only [Act.put, List.setIfInBounds_toArray, List.set_cons_zero, List.set_cons_succ])
              | (refine SeqL.call _ _ _ (by rfl) ?_ hK1.out ?_; (focus (intro u; go_simp; done)); simp only [Act.put, List.setIfInBounds_toArray, List.set_cons_zero, List.set_cons_succ])
              | (refine SeqL.call _ _ _ (by rfl) ?_ hD1.out ?_; (focus (intro u; go_simp; done)); simp only [Act.put, List.setIfInBounds_toArray, List.set_cons_zero, List.set_cons_succ])
              | (refine SeqL.call _ _ _ (by rfl) ?_ hD2.out ?_; (focus (intro u; go_simp; done)); simp only [Act.put, List.setIfInBounds_toArray, List.set_cons_zero, List.set_cons_succ]))
            refine SeqL.nil ?_
            intro u hu
            go_wp2
            go_ret
            exact ⟨by rw [HR.out]; rfl, k0.trans hu⟩
          | true =>
            have hD2 : Hid (∀ u, Kept (w.alloc (.cells #[.slice (some ⟨bb, off, none⟩) zs.length cap] 26)).drew u → Calls Tryz.prog 125 #[.agg #[.slice (some ⟨bb, off, none⟩) zs.length cap], .int .i64 v2, .int .i64 3] u fun e w' => e = .returned (.bool true) ∧ Kept u w') := fun u hu => by have := hC2 u hu; rw [g2] at this; exact this
            have HR : Hid (objR zs a s = zeroR zs (a + 3) (s - 3)) := by simp [Hid, objR, hsz, hv1, hv2, hp, g0, g1, g2]
            clear hc hok hI hIu hv1 hb1 hv2 hb2 hp g0 g1 hC1 g2 hC2 hsz
            go_enter Tryz.func85, Tryz.ntmps85
            go_wp2_with (first | (go_at_call 95; refine (l2Size_ok _ _).mono ?_; rintro e wx ⟨rfl, rfl⟩) | (go_at_call 96; refine (l2Kind_ok _ _).mono ?_; rintro e wx ⟨rfl, rfl⟩))
            refine wp_region_seqL (by kernel_rfl) (by kernel_rfl) ?_
            repeat (first
              | (refine SeqL.skip (by rfl) ?_; simp only [Act.put, List.setIfInBounds_toArray, List.set_cons_zero, List.set_cons_succ])
              | (refine SeqL.pure ?_ (by rfl) ?_ ?_; rotate_left; (focus (intro u hu; have x0' := x0 u hu; have y1' := y1 u hu; have y2' := y2 u hu; go_simp; first | done | exact rfl)); simp only [Act.put, List.setIfInBounds_toArray, List.set_cons_zero, List.set_cons_succ])
              | (refine SeqL.call _ _ _ (by rfl) ?_ hIn.out ?_; (focus (intro u; go_simp; done)); simp only [Act.put, List.setIfInBounds_toArray, List.set_cons_zero, List.set_cons_succ])
              | (refine SeqL.call _ _ _ (by rfl) ?_ hZ.out ?_; (focus (intro u; go_simp; done)); simp only [Act.put, List.setIfInBounds_toArray, List.set_cons_zero, List.set_cons_succ])
              | (refine SeqL.call _ _ _ (by rfl) ?_ hK1.out ?_; (focus (intro u; go_simp; done)); simp only [Act.put, List.setIfInBounds_toArray, List.set_cons_zero, List.set_cons_succ])
              | (refine SeqL.call _ _ _ (by rfl) ?_ hD1.out ?_; (focus (intro u; go_simp; done)); simp only [Act.put, List.setIfInBounds_toArray, List.set_cons_zero, List.set_cons_succ])
              | (refine SeqL.call _ _ _ (by rfl) ?_ hD2.out ?_; (focus (intro u; go_simp; done)); simp only [Act.put, List.setIfInBounds_toArray, List.set_cons_zero, List.set_cons_succ]))
            refine SeqL.nil ?_
            intro u hu
            go_wp2
            go_ret
            exact ⟨by rw [HR.out]; rfl, k0.trans hu⟩
      · have HR : Hid (objR zs a s = false) := by simp [Hid, objR, hsz, hv1, hv2, hp, g0]
        have e5 : (v1 % 8 == 5) = false := by simpa using g0
        clear hc hok hI hIu hv1 hb1 hv2 hb2 hsz hp g0
        go_enter Tryz.func85, Tryz.ntmps85
        go_wp2_with (first | (go_at_call 95; refine (l2Size_ok _ _).mono ?_; rintro e wx ⟨rfl, rfl⟩) | (go_at_call 96; refine (l2Kind_ok _ _).mono ?_; rintro e wx ⟨rfl, rfl⟩))
        refine wp_region_seqL (by kernel_rfl) (by kernel_rfl) ?_
        repeat (first
          | (refine SeqL.skip (by rfl) ?_; simp only [Act.put, List.setIfInBounds_toArray, List.set_cons_zero, List.set_cons_succ])
          | (refine SeqL.pure ?_ (by rfl) ?_ ?_; rotate_left; (focus (intro u hu; have x0' := x0 u hu; have y1' := y1 u hu; have y2' := y2 u hu; go_simp; first | done | exact rfl)); simp only [Act.put, List.setIfInBounds_toArray, List.set_cons_zero, List.set_cons_succ])
          | (refine SeqL.call _ _ _ (by rfl) ?_ hIn.out ?_; (focus (intro u; go_simp; done)); simp only [Act.put, List.setIfInBounds_toArray, List.set_cons_zero, List.set_cons_succ])
          | (refine SeqL.call _ _ _ (by rfl) ?_ hZ.out ?_; (focus (intro u; go_simp; done)); simp only [Act.put, List.setIfInBounds_toArray, List.set_cons_zero, List.set_cons_succ])
          | (refine SeqL.call _ _ _ (by rfl) ?_ hK1.out ?_; (focus (intro u; go_simp; done)); simp only [Act.put, List.setIfInBounds_toArray, List.set_cons_zero, List.set_cons_succ]))
        refine SeqL.nil ?_
        intro u hu
        go_wp2
        go_ret
        exact ⟨by rw [HR.out]; rfl, k0.trans hu⟩
  · have HR : Hid (objR zs a s = false) := by simp [Hid, objR, hsz]
    have hIn : Hid (∀ u, Kept (w.alloc (.cells #[.slice (some ⟨bb, off, none⟩) zs.length cap] 26)).drew u → Calls Tryz.prog 124 #[.int .i64 s, .int .i64 3, .int .i64 4] u fun e w' => e = .returned (.bool false) ∧ Kept u w') := fun u hu => calls_kept (l1In_no _ _ _ _ (by omega))
    clear hc hok hI hIu hv1 hb1 hv2 hb2 hsz
    go_enter Tryz.func85, Tryz.ntmps85
    go_wp2_with (first | (go_at_call 95; refine (l2Size_ok _ _).mono ?_; rintro e wx ⟨rfl, rfl⟩) | (go_at_call 96; refine (l2Kind_ok _ _).mono ?_; rintro e wx ⟨rfl, rfl⟩))
    refine wp_region_seqL (by kernel_rfl) (by kernel_rfl) ?_
    repeat (first
      | (refine SeqL.skip (by rfl) ?_; simp only [Act.put, List.setIfInBounds_toArray, List.set_cons_zero, List.set_cons_succ])
      | (refine SeqL.pure ?_ (by rfl) ?_ ?_; rotate_left; (focus (intro u hu; skip; go_simp; first | done | exact rfl)); simp only [Act.put, List.setIfInBounds_toArray, List.set_cons_zero, List.set_cons_succ])
      | (refine SeqL.call _ _ _ (by rfl) ?_ hIn.out ?_; (focus (intro u; go_simp; done)); simp only [Act.put, List.setIfInBounds_toArray, List.set_cons_zero, List.set_cons_succ]))
    refine SeqL.nil ?_
    intro u hu
    go_wp2
    go_ret
    exact ⟨by rw [HR.out]; rfl, k0.trans hu⟩
end Go.Proofs.YtpbafjcoomfooaaGreat
