/-
  The contract of chapter 3's model of a block's shape, for scopes, and for every kind.
-/
import Derived.Test.YtpbafjcoomfooaaGreatShapeJ
namespace Go.Proofs.YtpbafjcoomfooaaGreat
open Go.RowKit
attribute [local go_sem] Plain.and7

/-- The outer scope of a scope, and so many of its values, are right. -/
def scopeK (zs : List Int) (a j : Nat) : Bool := nextR zs (hz zs (a + 1)) 5 && allR (fun i => plainR zs (hz zs (a + 2 + i))) j
theorem scopeK_zero (zs : List Int) (a : Nat) : scopeK zs a 0 = nextR zs (hz zs (a + 1)) 5 := by simp [scopeK, allR_zero]
theorem scopeK_succ {zs : List Int} {a j : Nat} (h : scopeK zs a j = true) : scopeK zs a (j + 1) = plainR zs (hz zs (a + 2 + j)) := by
  simp only [scopeK, Bool.and_eq_true] at h
  simp [scopeK, allR_succ, h.1, h.2]
theorem scopeK_false {zs : List Int} {a j n : Nat} (hj : j ≤ n) (h : scopeK zs a j = false) : scopeK zs a n = false := by
  unfold scopeK at h ⊢
  cases hb : nextR zs (hz zs (a + 1)) 5 with
  | false => rfl
  | true => rw [hb, Bool.true_and] at h; rw [Bool.true_and]; exact allR_false hj h

set_option maxHeartbeats 16000000 in
set_option maxRecDepth 100000 in
theorem l3Shape_scope (w : World) (ao : Option Addr) (cap : Nat) (zs : List Int) (a s : Nat) (hI : Ints w ao zs) (hl : zs.length ≤ 1048576) (hok : slabOk zs = true) (hle : a + s ≤ zs.length) (hs : 2 ≤ s) (hz8 : hz zs a / 8 = (s : Int)) (hz9 : hz zs a % 8 = 5) :
    Calls Tryz.prog 85 #[.agg #[.slice ao zs.length cap], .int .i64 a] w fun e w' => e = .returned (.bool (scopeR zs a s)) ∧ Kept w w' := by
  have b0 := Cells.new w 26 #[.slice ao zs.length cap]
  have k0 : Kept w (w.alloc (.cells #[.slice ao zs.length cap] 26)).drew := (Kept.alloc (Below.refl _ _) _).drew
  have c0 := b0.cell 0
  obtain ⟨bb, off, rfl, hc⟩ := hI.at (k := 0) (by omega)
  have hck := hc a (by omega)
  have hbl : bb < w.heap.size := World.block_lt_of_cell? _ _ hck
  have hltI : (a : Int) < (zs.length : Int) := by omega
  have hwd : ∀ u, Kept w u → ∀ k, k < zs.length → u.cell? ⟨bb, off + k, none⟩ = some (.int .i64 (hz zs k)) := fun u hu k hk => (hu.cell (p := ⟨bb, off + k, none⟩) hbl).trans (hc k hk)
  have hIu : ∀ u, Kept w u → Ints u (some ⟨bb, off, none⟩) zs := fun u hu => hI.kept hu
  have hbd := fun k => hI.bd k
  have HS : Hid (scopeR zs a s = scopeK zs a (s - 2)) := rfl
  have H0 : Hid (scopeK zs a 0 = nextR zs (hz zs (a + 1)) 5) := scopeK_zero _ _
  have x0 : ∀ u, Kept (w.alloc (.cells #[.slice (some ⟨bb, off, none⟩) zs.length cap] 26)).drew u → u.cell? ⟨w.heap.size, 0, none⟩ = some (.slice (some ⟨bb, off, none⟩) zs.length cap) := fun u hu => ((b0.kept (Below.refl _ _).drew).kept hu).cell 0
  have y1 : ∀ u, Kept (w.alloc (.cells #[.slice (some ⟨bb, off, none⟩) zs.length cap] 26)).drew u → u.cell? ⟨bb, off + (a + 1), none⟩ = some (.int .i64 (hz zs (a + 1))) := fun u hu => hwd u (k0.trans hu) (a + 1) (by omega)
  have t1 : ((a : Int) + 1).toNat = a + 1 := by omega
  have p1 : (0 : Int) ≤ (a : Int) + 1 := by omega
  have q1 : (a : Int) + 1 < (zs.length : Int) := by omega
  have r1 : IntKind.i64.wrap ((a : Int) + 1) = (a : Int) + 1 := IntWalk.i64_in _ ⟨by omega, by omega⟩
  have hN : Hid (∀ u, Kept (w.alloc (.cells #[.slice (some ⟨bb, off, none⟩) zs.length cap] 26)).drew u → Calls Tryz.prog 125 #[.agg #[.slice (some ⟨bb, off, none⟩) zs.length cap], .int .i64 (hz zs (a + 1)), .int .i64 5] u fun e w' => e = .returned (.bool (nextR zs (hz zs (a + 1)) 5)) ∧ Kept u w') := fun u hu => l3Next_ok u _ cap zs _ 5 (hIu u (k0.trans hu)) hl hok (hbd _).1 (hbd _).2 (by omega)
  have HP : Hid (∀ u, Kept w u → ∀ j, Calls Tryz.prog 127 #[.agg #[.slice (some ⟨bb, off, none⟩) zs.length cap], .int .i64 (hz zs (a + 2 + j))] u fun e w' => e = .returned (.bool (plainR zs (hz zs (a + 2 + j)))) ∧ Kept u w') := fun u hu j => l3Plain_ok u _ cap zs _ (hIu u hu) hl hok (hbd _).1 (hbd _).2
  have HW : Hid (∀ u, Kept w u → ∀ k, k < zs.length → u.cell? ⟨bb, off + k, none⟩ = some (.int .i64 (hz zs k))) := hwd
  clear hwd hc hok hI hIu hbd
  go_enter Tryz.func85, Tryz.ntmps85
  go_wp2_with (first | (go_at_call 95; refine (l2Size_ok _ _).mono ?_; rintro e wx ⟨rfl, rfl⟩) | (go_at_call 96; refine (l2Kind_ok _ _).mono ?_; rintro e wx ⟨rfl, rfl⟩))
  refine wp_region_seqL (by kernel_rfl) (by kernel_rfl) ?_
  repeat (first
    | (refine SeqL.skip (by rfl) ?_; simp only [Act.put, List.setIfInBounds_toArray, List.set_cons_zero, List.set_cons_succ])
    | (refine SeqL.pure ?_ (by rfl) ?_ ?_; rotate_left; (focus (intro u hu; have x0' := x0 u hu; have y1' := y1 u hu; go_simp; first | done | exact rfl)); simp only [Act.put, List.setIfInBounds_toArray, List.set_cons_zero, List.set_cons_succ])
    | (refine SeqL.call _ _ _ (by rfl) ?_ hN.out ?_; (focus (intro u; go_simp; done)); simp only [Act.put, List.setIfInBounds_toArray, List.set_cons_zero, List.set_cons_succ]))
  refine SeqL.nil ?_
  intro u hu
  have bu := (b0.kept (Below.refl _ _).drew).kept hu
  have ku := k0.trans hu
  clear x0 y1 hN c0 b0 k0 hck t1 p1 q1 r1
  go_wp2_with fail
  go_loopw [7, 8] (fun v i wr => ∃ j : Nat, v = .bool (scopeK zs a j) ∧ i = .int .i64 ((j : Int) + 2) ∧ j + 2 ≤ s ∧ Cells wr w.heap.size 26 #[.slice (some ⟨bb, off, none⟩) zs.length cap] ∧ Kept w wr) (fun _ i _ => s - (intOf i).toNat)
  case atStart => exact ⟨0, by rw [H0.out], by simp, by omega, bu, ku⟩
  case round =>
    obtain ⟨j, rfl, rfl, hj, hb, hK⟩ := hrel
    clear bu ku hu
    have HK : Hid (Kept w wr) := hK
    cases hv : scopeK zs a j with
    | false =>
      have HV : Hid (scopeR zs a s = false) := by show _ = _; rw [HS.out]; exact scopeK_false (by omega) hv
      clear hv
      by_cases hlt : (j : Int) + 2 < (s : Int)
      all_goals (
        go_wp2
        go_ret
        exact ⟨by rw [HV.out]; rfl, HK.out⟩)
    | true =>
      by_cases hlt : (j : Int) + 2 < (s : Int)
      · have HN : Hid (scopeK zs a (j + 1) = plainR zs (hz zs (a + 2 + j))) := scopeK_succ hv
        clear hv
        have x0 : ∀ u, Kept wr.drew u → u.cell? ⟨w.heap.size, 0, none⟩ = some (.slice (some ⟨bb, off, none⟩) zs.length cap) := fun u hu => ((hb.kept (Below.refl _ _).drew).kept hu).cell 0
        have y1 : ∀ u, Kept wr.drew u → u.cell? ⟨bb, off + (a + 2 + j), none⟩ = some (.int .i64 (hz zs (a + 2 + j))) := fun u hu => HW.out u (hK.trans (Kept.trans ((Below.refl _ wr).drew) hu)) (a + 2 + j) (by omega)
        have hP : Hid (∀ u, Kept wr.drew u → Calls Tryz.prog 127 #[.agg #[.slice (some ⟨bb, off, none⟩) zs.length cap], .int .i64 (hz zs (a + 2 + j))] u fun e w' => e = .returned (.bool (plainR zs (hz zs (a + 2 + j)))) ∧ Kept u w') := fun u hu => HP.out u (hK.trans (Kept.trans ((Below.refl _ wr).drew) hu)) j
        have t1 : ((a : Int) + ((j : Int) + 2)).toNat = a + 2 + j := by omega
        have p1 : (0 : Int) ≤ (a : Int) + ((j : Int) + 2) := by omega
        have q1 : (a : Int) + ((j : Int) + 2) < (zs.length : Int) := by omega
        have r1 : IntKind.i64.wrap ((a : Int) + ((j : Int) + 2)) = (a : Int) + ((j : Int) + 2) := IntWalk.i64_in _ ⟨by omega, by omega⟩
        go_wp2_with fail
        refine wp_region_seqL (by kernel_rfl) (by kernel_rfl) ?_
        repeat (first
          | (refine SeqL.pure ?_ (by rfl) ?_ ?_; rotate_left; (focus (intro u hu; have x0' := x0 u hu; have y1' := y1 u hu; go_simp; first | done | exact rfl)); simp only [Act.put, List.setIfInBounds_toArray, List.set_cons_zero, List.set_cons_succ])
          | (refine SeqL.call _ _ _ (by rfl) ?_ hP.out ?_; (focus (intro u; go_simp; done)); simp only [Act.put, List.setIfInBounds_toArray, List.set_cons_zero, List.set_cons_succ]))
        refine SeqL.nil ?_
        intro u hu
        have kd := Kept.trans ((Below.refl _ wr).drew) hu
        have hb' := hb.kept kd
        have hK' := hK.trans kd
        clear x0 y1 hP t1 p1 q1 r1 hb hK
        go_wp2_with fail
        go_roundw
        case rel => exact ⟨j + 1, by rw [HN.out], by go_num, by omega, hb', hK'⟩
        case measure => simp [intOf]; omega
      · have HV : Hid (scopeR zs a s = true) := by show _ = _; rw [HS.out, show s - 2 = j by omega]; exact hv
        clear hv
        go_wp2
        go_ret
        exact ⟨by rw [HV.out]; rfl, HK.out⟩
end Go.Proofs.YtpbafjcoomfooaaGreat
