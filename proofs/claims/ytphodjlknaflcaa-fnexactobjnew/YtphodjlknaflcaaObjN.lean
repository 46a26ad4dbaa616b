/-
  The contract of chapter 5's model ObjNew.
-/
import Derived.Test.YtphodjlknaflcaaObjF
import Derived.Test.YtphodjlknaflcaaSlabQ
namespace Go.Proofs.Ytphodjlknaflcaa
open Go.RowKit

theorem objNewC_len (zs : List Int) (p : Int) : (objNewC zs p).1.length = zs.length ∨ (objNewC zs p).1.length = 0 := by
  unfold objNewC
  split
  · exact .inl (objC_len zs p)
  · exact zeroL_len zs
set_option maxHeartbeats 8000000 in
set_option maxRecDepth 100000 in
theorem spec_ObjNew_ok (w : World) (ao : Option Addr) (cap : Nat) (zs : List Int) (p : Int) (hI : Ints w ao zs) (hl : zs.length ≤ 1048576) (hp : -9223372036854775808 ≤ p ∧ p ≤ 9223372036854775807) :
    Calls Try.prog 5 #[.agg #[.slice ao zs.length cap], .int .i64 p] w fun e w' => ∃ v, e = .returned (.tuple #[.agg #[v], .int .i64 (objNewC zs p).2.1, .bool (objNewC zs p).2.2]) ∧ OwnR w' w.heap.size v (objNewC zs p).1 ∧ Kept w w' ∧ FullV w' v := by
  have b0 := (Cells.new w 26 #[.slice ao zs.length cap]).alloc (.cells #[.slice none 0 0] 26)
  have b1 := Cells.new (w.alloc (.cells #[.slice ao zs.length cap] 26)) 26 #[.slice none 0 0]
  have k0 : Kept w ((w.alloc (.cells #[.slice ao zs.length cap] 26)).alloc (.cells #[.slice none 0 0] 26)) := (Kept.alloc (Below.refl _ _) _).alloc _
  simp only [World.size_alloc] at b1
  have hP := fun (u : World) => l5ProtoOk_ok p u
  have hZ := fun (u : World) (hu : Kept w u) => l5Zero_ok u ao cap zs (hI.kept hu) hl
  have HZ : Hid _ := hZ
  cases hpr : protoR p with
  | false =>
    have HC : Hid (objNewC zs p = (zeroL zs, 0, false)) := by simp [Hid, objNewC, hpr]
    rw [hpr] at hP
    have c0 := b0.cell 0
    clear hpr hZ
    go_enter Try.func5, Try.ntmps5
    go_wp2_with (first | (go_at_call 12; refine (hP _).mono ?_; rintro e wx ⟨rfl, rfl⟩) | (go_at_call 14; refine (HZ.out _ k0).mono ?_; rintro e w2 ⟨v2, rfl, o2, hk2, fv2⟩; obtain ⟨la2, lc2, rfl, _⟩ := o2.ints; have x1 := b1.kept hk2; have d1 := x1.cell 0; have f1 := x1.frozen 0; have l1 := x1.lt))
    have q := (x1.set1 (.slice la2 (zeroL zs).length lc2)).cell 0
    refine bodyPost_ret (v := .tuple #[.agg #[.slice la2 (zeroL zs).length lc2], .int .i64 0, .bool false]) (by simp [results, Try.results5, go_sem, q]) rfl ?_
    rw [HC.out]
    refine ⟨_, rfl, ?_, (k0.trans hk2).set (by simp) _, fv2.set _ _ _⟩
    rcases o2 with ⟨h1, h2⟩ | ⟨g3, c3, h1, h2, h3, h4⟩
    · exact .inl ⟨h1, h2⟩
    · simp only [World.size_alloc] at h2
      exact .inr ⟨g3, c3, h1, by omega, h3, h4.other (by intro h; simp at h <;> omega) _⟩
  | true =>
    rw [hpr] at hP
    have hR := RootsOk_at _ ao cap zs [p] 1 #[.int .i64 p] rfl rfl (by simpa using hp) (by omega) (hI.kept k0) hl
    simp only [World.size_alloc] at hR
    have c0 := (b0.alloc (.cells #[.int .i64 p] 3)).cell 0
    cases hr : rootsR zs [p] with
    | false =>
      have HC : Hid (objNewC zs p = (zeroL zs, 0, false)) := by simp [Hid, objNewC, hpr, hr]
      rw [hr] at hR
      have c0' := b0.cell 0
      clear hpr hZ hr
      go_enter Try.func5, Try.ntmps5
      go_wp2_with (first | (go_at_call 12; refine (hP _).mono ?_; rintro e wx ⟨rfl, rfl⟩) | (go_at_call 13; refine hR.mono ?_; rintro e w1 ⟨rfl, hk1⟩; have d0 := (b0.kept hk1).cell 0) | (go_at_call 14; refine (HZ.out _ (k0.trans hk1)).mono ?_; rintro e w2 ⟨v2, rfl, o2, hk2, fv2⟩; obtain ⟨la2, lc2, rfl, _⟩ := o2.ints; have x1 := (b1.kept hk1).kept hk2; have d1 := x1.cell 0; have f1 := x1.frozen 0; have l1 := x1.lt))
      have hs1 := hk1.size
      simp only [World.size_alloc] at hs1
      have q := (x1.set1 (.slice la2 (zeroL zs).length lc2)).cell 0
      refine bodyPost_ret (v := .tuple #[.agg #[.slice la2 (zeroL zs).length lc2], .int .i64 0, .bool false]) (by simp [results, Try.results5, go_sem, q]) rfl ?_
      rw [HC.out]
      refine ⟨_, rfl, ?_, ((k0.trans hk1).trans hk2).set (by simp) _, fv2.set _ _ _⟩
      rcases o2 with ⟨h1, h2⟩ | ⟨g3, c3, h1, h2, h3, h4⟩
      · exact .inl ⟨h1, h2⟩
      · exact .inr ⟨g3, c3, h1, by omega, h3, h4.other (by intro h; simp at h <;> omega) _⟩
    | true =>
      have hok := heapR_slab (rootsR_heap hr)
      have HC : Hid (objNewC zs p = objC zs p) := by simp [Hid, objNewC, hpr, hr]
      have hrl := objC_len zs p
      have hT := fun (u : World) (g c : Nat) (hu : Row u g zs) => l5New_ok u g c zs p hu hl hok hp
      obtain ⟨rs, hrs⟩ : ∃ rs, (objC zs p).1 = rs := ⟨_, rfl⟩
      obtain ⟨x, hx⟩ : ∃ x, (objC zs p).2.1 = x := ⟨_, rfl⟩
      obtain ⟨y, hy⟩ : ∃ y, (objC zs p).2.2 = y := ⟨_, rfl⟩
      have HC' : Hid (objNewC zs p = (rs, x, y)) := by show _ = _; rw [HC.out, ← hrs, ← hx, ← hy]
      rw [hrs, hx, hy] at hT
      rw [hrs] at hrl
      rw [hr] at hR
      have c0' := b0.cell 0
      clear hpr hZ hr HC hrs hx hy hok
      go_enter Try.func5, Try.ntmps5
      go_wp2_with (first | (go_at_call 12; refine (hP _).mono ?_; rintro e wx ⟨rfl, rfl⟩) | (go_at_call 13; refine hR.mono ?_; rintro e w1 ⟨rfl, hk1⟩; have d0 := (b0.kept hk1).cell 0) | (go_at_call 16; refine (l2Copy_ok _ ao cap zs ((hI.kept k0).kept hk1) hl).mono ?_; rintro e w2 ⟨g2, c2, rfl, hg2, hc2, hR2, hk2, sz2⟩) | (go_at_call 15; refine (hT _ g2 c2 hR2).mono ?_; rintro e w3 ⟨rfl, hR3, hG3⟩; have hs1 := hk1.size; simp only [World.size_alloc] at hs1; have x1 := ((b1.kept hk1).kept hk2).grown hG3.1 (by intro e; simp at e; omega); have d1 := x1.cell 0; have f1 := x1.frozen 0; have l1 := x1.lt))
      have k3 := ((k0.trans hk1).trans hk2).grownRow hG3.1 (fun k e => by cases e; omega)
      have q := ((x1.set1 (.slice (some ⟨g2, 0, none⟩) zs.length c2)).alloc (.cells #[.slice (some ⟨g2, 0, none⟩) zs.length c2] 26)).cell 0
      refine bodyPost_ret (v := .tuple #[.agg #[.slice (some ⟨g2, 0, none⟩) zs.length c2], .int .i64 x, .bool y]) (by simp [results, Try.results5, go_sem, q]) rfl ?_
      rw [HC'.out]
      exact ⟨_, rfl, .inr ⟨g2, c2, by rw [hrl], by omega, by rw [hrl]; exact hc2, (hR3.other (by intro h; simp at h <;> omega) _).kept (Kept.alloc (Below.refl _ _) _)⟩, (k3.set (by simp) _).alloc _, FullV.one (((hG3.2 _ sz2).set _ _ _).kept (Kept.alloc (Below.refl _ _) _))⟩
end Go.Proofs.Ytphodjlknaflcaa
