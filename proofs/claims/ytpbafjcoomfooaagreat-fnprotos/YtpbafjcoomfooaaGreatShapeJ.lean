/-
  The contract of chapter 3's model of a block's shape, for functions.
-/
import Derived.Test.YtpbafjcoomfooaaGreatShapeI
import Derived.Test.YtpbafjcoomfooaaGreatSeq
namespace Go.Proofs.YtpbafjcoomfooaaGreat
open Go.RowKit
attribute [local go_sem] Plain.and7

def objR (zs : List Int) (a s : Nat) : Bool := decide (3 ≤ s ∧ s ≤ 4) && (decide (hz zs (a + 1) = 1) || (decide (hz zs (a + 1) % 8 = 5) && leadsR zs (hz zs (a + 1)) 0)) && nextR zs (hz zs (a + 2)) 3 && zeroR zs (a + 3) (s - 3)
def cellR (zs : List Int) (a s : Nat) : Bool := decide (4 ≤ s ∧ s ≤ 5) && decide (hz zs (a + 1) % 8 = 4) && leadsR zs (hz zs (a + 1)) 0 && plainR zs (hz zs (a + 2)) && nextR zs (hz zs (a + 3)) 3 && zeroR zs (a + 4) (s - 4)
def funR (zs : List Int) (a s : Nat) : Bool := decide (3 ≤ s ∧ s ≤ 4) && decide (0 ≤ hz zs (a + 1) ∧ hz zs (a + 1) ≤ 99) && decide (hz zs (a + 2) % 8 = 7) && leadsR zs (hz zs (a + 2)) 5 && zeroR zs (a + 3) (s - 3)
def scopeR (zs : List Int) (a s : Nat) : Bool := nextR zs (hz zs (a + 1)) 5 && allR (fun i => plainR zs (hz zs (a + 2 + i))) (s - 2)

set_option maxHeartbeats 16000000 in
set_option maxRecDepth 100000 in
theorem l3Shape_fun (w : World) (ao : Option Addr) (cap : Nat) (zs : List Int) (a s : Nat) (hI : Ints w ao zs) (hl : zs.length ≤ 1048576) (hok : slabOk zs = true) (hle : a + s ≤ zs.length) (hs : 2 ≤ s) (hz8 : hz zs a / 8 = (s : Int)) (hz9 : hz zs a % 8 = 4) :
    Calls Tryz.prog 85 #[.agg #[.slice ao zs.length cap], .int .i64 a] w fun e w' => e = .returned (.bool (funR zs a s)) ∧ Kept w w' := by
  have b0 := Cells.new w 26 #[.slice ao zs.length cap]
  have k0 : Kept w (w.alloc (.cells #[.slice ao zs.length cap] 26)).drew := (Kept.alloc (Below.refl _ _) _).drew
  have c0 := b0.cell 0
  obtain ⟨bb, off, rfl, hc⟩ := hI.at (k := 0) (by omega)
  have hck := hc a (by omega)
  have hbl : bb < w.heap.size := World.block_lt_of_cell? _ _ hck
  have hltI : (a : Int) < (zs.length : Int) := by omega
  have x0 : ∀ u, Kept (w.alloc (.cells #[.slice (some ⟨bb, off, none⟩) zs.length cap] 26)).drew u → u.cell? ⟨w.heap.size, 0, none⟩ = some (.slice (some ⟨bb, off, none⟩) zs.length cap) := fun u hu => ((b0.kept (Below.refl _ _).drew).kept hu).cell 0
  have hIu : ∀ u, Kept (w.alloc (.cells #[.slice (some ⟨bb, off, none⟩) zs.length cap] 26)).drew u → Ints u (some ⟨bb, off, none⟩) zs := fun u hu => hI.kept (k0.trans hu)
  obtain ⟨v1, hv1⟩ : ∃ v, hz zs (a + 1) = v := ⟨_, rfl⟩
  have hb1 := hI.bd (a + 1)
  rw [hv1] at hb1
  obtain ⟨v2, hv2⟩ : ∃ v, hz zs (a + 2) = v := ⟨_, rfl⟩
  have hb2 := hI.bd (a + 2)
  rw [hv2] at hb2
  by_cases hsz : 3 ≤ s ∧ s ≤ 4
  · have y1 : ∀ u, Kept (w.alloc (.cells #[.slice (some ⟨bb, off, none⟩) zs.length cap] 26)).drew u → u.cell? ⟨bb, off + (a + 1), none⟩ = some (.int .i64 v1) := fun u hu => by rw [← hv1]; exact ((k0.trans hu).cell (p := ⟨bb, off + (a + 1), none⟩) hbl).trans (hc (a + 1) (by omega))
    have t1 : ((a : Int) + 1).toNat = a + 1 := by omega
    have p1 : (0 : Int) ≤ (a : Int) + 1 := by omega
    have q1 : (a : Int) + 1 < (zs.length : Int) := by omega
    have r1 : IntKind.i64.wrap ((a : Int) + 1) = (a : Int) + 1 := IntWalk.i64_in _ ⟨by omega, by omega⟩
    have y2 : ∀ u, Kept (w.alloc (.cells #[.slice (some ⟨bb, off, none⟩) zs.length cap] 26)).drew u → u.cell? ⟨bb, off + (a + 2), none⟩ = some (.int .i64 v2) := fun u hu => by rw [← hv2]; exact ((k0.trans hu).cell (p := ⟨bb, off + (a + 2), none⟩) hbl).trans (hc (a + 2) (by omega))
    have t2 : ((a : Int) + 2).toNat = a + 2 := by omega
    have p2 : (0 : Int) ≤ (a : Int) + 2 := by omega
    have q2 : (a : Int) + 2 < (zs.length : Int) := by omega
    have r2 : IntKind.i64.wrap ((a : Int) + 2) = (a : Int) + 2 := IntWalk.i64_in _ ⟨by omega, by omega⟩
    have r3 : IntKind.i64.wrap ((a : Int) + 3) = (a : Int) + 3 := IntWalk.i64_in _ ⟨by omega, by omega⟩
    have rs : IntKind.i64.wrap ((a : Int) + (s : Int)) = (a : Int) + (s : Int) := IntWalk.i64_in _ ⟨by omega, by omega⟩
    have hZ : Hid (∀ u, Kept (w.alloc (.cells #[.slice (some ⟨bb, off, none⟩) zs.length cap] 26)).drew u → Calls Tryz.prog 126 #[.agg #[.slice (some ⟨bb, off, none⟩) zs.length cap], .int .i64 ((a : Int) + 3), .int .i64 ((a : Int) + (s : Int))] u fun e w' => e = .returned (.bool (zeroR zs (a + 3) (s - 3))) ∧ Kept u w') := fun u hu => l3Zero_ok u (some ⟨bb, off, none⟩) cap zs (a + 3) (s - 3) ((a : Int) + 3) ((a : Int) + (s : Int)) (by omega) (by omega) (hIu u hu) hl (by omega)
    have hIn : Hid (∀ u, Kept (w.alloc (.cells #[.slice (some ⟨bb, off, none⟩) zs.length cap] 26)).drew u → Calls Tryz.prog 124 #[.int .i64 s, .int .i64 3, .int .i64 4] u fun e w' => e = .returned (.bool true) ∧ Kept u w') := fun u hu => calls_kept (l1In_yes _ _ _ _ (by omega) (by omega))
    have hK2 : Hid (∀ u, Kept (w.alloc (.cells #[.slice (some ⟨bb, off, none⟩) zs.length cap] 26)).drew u → Calls Tryz.prog 50 #[.int .i64 v2] u fun e w' => e = .returned (.int .i64 (v2 % 8)) ∧ Kept u w') := fun u hu => calls_kept (spec_Kind_ok _ _)
    by_cases g0 : 0 ≤ v1 ∧ v1 ≤ 99
    · have ga := g0.1
      have gb := g0.2
      have hJ : Hid (∀ u, Kept (w.alloc (.cells #[.slice (some ⟨bb, off, none⟩) zs.length cap] 26)).drew u → Calls Tryz.prog 124 #[.int .i64 v1, .int .i64 0, .int .i64 99] u fun e w' => e = .returned (.bool true) ∧ Kept u w') := fun u hu => calls_kept (l1In_yes _ _ _ _ ga gb)
      by_cases g1 : v2 % 8 = 7
      · have e7 : (v2 % 8 == 7) = true := by simp [g1]
        have hC2 := fun (u : World) (hu : Kept (w.alloc (.cells #[.slice (some ⟨bb, off, none⟩) zs.length cap] 26)).drew u) => l3Leads_ok u _ cap zs v2 5 (hIu u hu) hl hok hb2.1 hb2.2 (by omega)
        cases g2 : leadsR zs v2 5 with
        | false =>
          have HR : Hid (funR zs a s = false) := by simp [Hid, funR, hsz, hv1, hv2, g0, g1, g2]
          have hD2 : Hid (∀ u, Kept (w.alloc (.cells #[.slice (some ⟨bb, off, none⟩) zs.length cap] 26)).drew u → Calls Tryz.prog 51 #[.agg #[.slice (some ⟨bb, off, none⟩) zs.length cap], .int .i64 v2, .int .i64 5] u fun e w' => e = .returned (.bool false) ∧ Kept u w') := fun u hu => by have := hC2 u hu; rw [g2] at this; exact this
          clear hc hok hI hIu hv1 hb1 hv2 hb2 hsz g2 hC2 g0 g1
          go_enter Tryz.func85, Tryz.ntmps85
          go_wp2_with (first | (go_at_call 95; refine (l2Size_ok _ _).mono ?_; rintro e wx ⟨rfl, rfl⟩) | (go_at_call 96; refine (l2Kind_ok _ _).mono ?_; rintro e wx ⟨rfl, rfl⟩))
          refine wp_region_seqL (by kernel_rfl) (by kernel_rfl) ?_
          repeat (first
            | (refine SeqL.skip (by rfl) ?_; simp only [Act.put, List.setIfInBounds_toArray, List.set_cons_zero, List.set_cons_succ])
            | (refine SeqL.pure ?_ (by rfl) ?_ ?_; rotate_left; (focus (intro u hu; have x0' := x0 u hu; have y1' := y1 u hu; have y2' := y2 u hu; go_simp; first | done | exact rfl)); simp only [Act.put, List.setIfInBounds_toArray, List.set_cons_zero, List.set_cons_succ])
            | (refine SeqL.call _ _ _ (by rfl) ?_ hIn.out ?_; (focus (intro u; go_simp; done)); simp only [Act.put, List.setIfInBounds_toArray, List.set_cons_zero, List.set_cons_succ])
            | (refine SeqL.call _ _ _ (by rfl) ?_ hZ.out ?_; (focus (intro u; go_simp; done)); simp only [Act.put, List.setIfInBounds_toArray, List.set_cons_zero, List.set_cons_succ])
            | (refine SeqL.call _ _ _ (by rfl) ?_ hK2.out ?_; (focus (intro u; go_simp; done)); simp only [Act.put, List.setIfInBounds_toArray, List.set_cons_zero, List.set_cons_succ])
            | (refine SeqL.call _ _ _ (by rfl) ?_ hJ.out ?_; (focus (intro u; go_simp; done)); simp only [Act.put, List.setIfInBounds_toArray, List.set_cons_zero, List.set_cons_succ])
            | (refine SeqL.call _ _ _ (by rfl) ?_ hD2.out ?_; (focus (intro u; go_simp; done)); simp only [Act.put, List.setIfInBounds_toArray, List.set_cons_zero, List.set_cons_succ]))
          refine SeqL.nil ?_
          intro u hu
          go_wp2
          go_ret
          exact ⟨by rw [HR.out]; rfl, k0.trans hu⟩
        | true =>
          have hD2 : Hid (∀ u, Kept (w.alloc (.cells #[.slice (some ⟨bb, off, none⟩) zs.length cap] 26)).drew u → Calls Tryz.prog 51 #[.agg #[.slice (some ⟨bb, off, none⟩) zs.length cap], .int .i64 v2, .int .i64 5] u fun e w' => e = .returned (.bool true) ∧ Kept u w') := fun u hu => by have := hC2 u hu; rw [g2] at this; exact this
          have HR : Hid (funR zs a s = zeroR zs (a + 3) (s - 3)) := by simp [Hid, funR, hsz, hv1, hv2, g0, g1, g2]
          clear hc hok hI hIu hv1 hb1 hv2 hb2 g0 g1 g2 hC2 hsz
          go_enter Tryz.func85, Tryz.ntmps85
          go_wp2_with (first | (go_at_call 95; refine (l2Size_ok _ _).mono ?_; rintro e wx ⟨rfl, rfl⟩) | (go_at_call 96; refine (l2Kind_ok _ _).mono ?_; rintro e wx ⟨rfl, rfl⟩))
          refine wp_region_seqL (by kernel_rfl) (by kernel_rfl) ?_
          repeat (first
            | (refine SeqL.skip (by rfl) ?_; simp only [Act.put, List.setIfInBounds_toArray, List.set_cons_zero, List.set_cons_succ])
            | (refine SeqL.pure ?_ (by rfl) ?_ ?_; rotate_left; (focus (intro u hu; have x0' := x0 u hu; have y1' := y1 u hu; have y2' := y2 u hu; go_simp; first | done | exact rfl)); simp only [Act.put, List.setIfInBounds_toArray, List.set_cons_zero, List.set_cons_succ])
            | (refine SeqL.call _ _ _ (by rfl) ?_ hIn.out ?_; (focus (intro u; go_simp; done)); simp only [Act.put, List.setIfInBounds_toArray, List.set_cons_zero, List.set_cons_succ])
            | (refine SeqL.call _ _ _ (by rfl) ?_ hZ.out ?_; (focus (intro u; go_simp; done)); simp only [Act.put, List.setIfInBounds_toArray, List.set_cons_zero, List.set_cons_succ])
            | (refine SeqL.call _ _ _ (by rfl) ?_ hK2.out ?_; (focus (intro u; go_simp; done)); simp only [Act.put, List.setIfInBounds_toArray, List.set_cons_zero, List.set_cons_succ])
            | (refine SeqL.call _ _ _ (by rfl) ?_ hJ.out ?_; (focus (intro u; go_simp; done)); simp only [Act.put, List.setIfInBounds_toArray, List.set_cons_zero, List.set_cons_succ])
            | (refine SeqL.call _ _ _ (by rfl) ?_ hD2.out ?_; (focus (intro u; go_simp; done)); simp only [Act.put, List.setIfInBounds_toArray, List.set_cons_zero, List.set_cons_succ]))
          refine SeqL.nil ?_
          intro u hu
          go_wp2
          go_ret
          exact ⟨by rw [HR.out]; rfl, k0.trans hu⟩
      · have HR : Hid (funR zs a s = false) := by simp [Hid, funR, hsz, hv1, hv2, g0, g1]
        have e7 : (v2 % 8 == 7) = false := by simpa using g1
        clear hc hok hI hIu hv1 hb1 hv2 hb2 hsz g0 g1
        go_enter Tryz.func85, Tryz.ntmps85
        go_wp2_with (first | (go_at_call 95; refine (l2Size_ok _ _).mono ?_; rintro e wx ⟨rfl, rfl⟩) | (go_at_call 96; refine (l2Kind_ok _ _).mono ?_; rintro e wx ⟨rfl, rfl⟩))
        refine wp_region_seqL (by kernel_rfl) (by kernel_rfl) ?_
        repeat (first
          | (refine SeqL.skip (by rfl) ?_; simp only [Act.put, List.setIfInBounds_toArray, List.set_cons_zero, List.set_cons_succ])
          | (refine SeqL.pure ?_ (by rfl) ?_ ?_; rotate_left; (focus (intro u hu; have x0' := x0 u hu; have y1' := y1 u hu; have y2' := y2 u hu; go_simp; first | done | exact rfl)); simp only [Act.put, List.setIfInBounds_toArray, List.set_cons_zero, List.set_cons_succ])
          | (refine SeqL.call _ _ _ (by rfl) ?_ hIn.out ?_; (focus (intro u; go_simp; done)); simp only [Act.put, List.setIfInBounds_toArray, List.set_cons_zero, List.set_cons_succ])
          | (refine SeqL.call _ _ _ (by rfl) ?_ hZ.out ?_; (focus (intro u; go_simp; done)); simp only [Act.put, List.setIfInBounds_toArray, List.set_cons_zero, List.set_cons_succ])
          | (refine SeqL.call _ _ _ (by rfl) ?_ hK2.out ?_; (focus (intro u; go_simp; done)); simp only [Act.put, List.setIfInBounds_toArray, List.set_cons_zero, List.set_cons_succ])
          | (refine SeqL.call _ _ _ (by rfl) ?_ hJ.out ?_; (focus (intro u; go_simp; done)); simp only [Act.put, List.setIfInBounds_toArray, List.set_cons_zero, List.set_cons_succ]))
        refine SeqL.nil ?_
        intro u hu
        go_wp2
        go_ret
        exact ⟨by rw [HR.out]; rfl, k0.trans hu⟩
    · have HR : Hid (funR zs a s = false) := by simp [Hid, funR, hsz, hv1, hv2, g0]
      have gn : v1 < 0 ∨ 99 < v1 := by omega
      have hJ : Hid (∀ u, Kept (w.alloc (.cells #[.slice (some ⟨bb, off, none⟩) zs.length cap] 26)).drew u → Calls Tryz.prog 124 #[.int .i64 v1, .int .i64 0, .int .i64 99] u fun e w' => e = .returned (.bool false) ∧ Kept u w') := fun u hu => calls_kept (l1In_no _ _ _ _ gn)
      clear hc hok hI hIu hv1 hb1 hv2 hb2 hsz g0
      go_enter Tryz.func85, Tryz.ntmps85
      go_wp2_with (first | (go_at_call 95; refine (l2Size_ok _ _).mono ?_; rintro e wx ⟨rfl, rfl⟩) | (go_at_call 96; refine (l2Kind_ok _ _).mono ?_; rintro e wx ⟨rfl, rfl⟩))
      refine wp_region_seqL (by kernel_rfl) (by kernel_rfl) ?_
      repeat (first
        | (refine SeqL.skip (by rfl) ?_; simp only [Act.put, List.setIfInBounds_toArray, List.set_cons_zero, List.set_cons_succ])
        | (refine SeqL.pure ?_ (by rfl) ?_ ?_; rotate_left; (focus (intro u hu; have x0' := x0 u hu; have y1' := y1 u hu; have y2' := y2 u hu; go_simp; first | done | exact rfl)); simp only [Act.put, List.setIfInBounds_toArray, List.set_cons_zero, List.set_cons_succ])
        | (refine SeqL.call _ _ _ (by rfl) ?_ hIn.out ?_; (focus (intro u; go_simp; done)); simp only [Act.put, List.setIfInBounds_toArray, List.set_cons_zero, List.set_cons_succ])
        | (refine SeqL.call _ _ _ (by rfl) ?_ hZ.out ?_; (focus (intro u; go_simp; done)); simp only [Act.put, List.setIfInBounds_toArray, List.set_cons_zero, List.set_cons_succ])
        | (refine SeqL.call _ _ _ (by rfl) ?_ hK2.out ?_; (focus (intro u; go_simp; done)); simp only [Act.put, List.setIfInBounds_toArray, List.set_cons_zero, List.set_cons_succ])
        | (refine SeqL.call _ _ _ (by rfl) ?_ hJ.out ?_; (focus (intro u; go_simp; done)); simp only [Act.put, List.setIfInBounds_toArray, List.set_cons_zero, List.set_cons_succ]))
      refine SeqL.nil ?_
      intro u hu
      go_wp2
      go_ret
      exact ⟨by rw [HR.out]; rfl, k0.trans hu⟩
  · have HR : Hid (funR zs a s = false) := by simp [Hid, funR, hsz]
    have hIn : Hid (∀ u, Kept (w.alloc (.cells #[.slice (some ⟨bb, off, none⟩) zs.length cap] 26)).drew u → Calls Tryz.prog 124 #[.int .i64 s, .int .i64 3, .int .i64 4] u fun e w' => e = .returned (.bool false) ∧ Kept u w') := fun u hu => calls_kept (l1In_no _ _ _ _ (by omega))
    clear hc hok hI hIu hv1 hb1 hv2 hb2 hsz
    go_enter Tryz.func85, Tryz.ntmps85
    go_wp2_with (first | (go_at_call 95; refine (l2Size_ok _ _).mono ?_; rintro e wx ⟨rfl, rfl⟩) | (go_at_call 96; refine (l2Kind_ok _ _).mono ?_; rintro e wx ⟨rfl, rfl⟩))
    refine wp_region_seqL (by kernel_rfl) (by kernel_rfl) ?_
    repeat (first
      | (refine SeqL.skip (by rfl) ?_; simp only [Act.put, List.setIfInBounds_toArray, List.set_cons_zero, List.set_cons_succ])
      | (refine SeqL.pure ?_ (by rfl) ?_ ?_; rotate_left; (focus (intro u hu; skip; go_simp; first | done | exact rfl)); simp only [Act.put, List.setIfInBounds_toArray, List.set_cons_zero, List.set_cons_succ])
      | (refine SeqL.call _ _ _ (by rfl) ?_ hIn.out ?_; (focus (intro u; go_simp; done)); simp only [Act.put, List.setIfInBounds_toArray, List.set_cons_zero, List.set_cons_succ]))
    refine SeqL.nil ?_
    intro u hu
    go_wp2
    go_ret
    exact ⟨by rw [HR.out]; rfl, k0.trans hu⟩
end Go.Proofs.YtpbafjcoomfooaaGreat
