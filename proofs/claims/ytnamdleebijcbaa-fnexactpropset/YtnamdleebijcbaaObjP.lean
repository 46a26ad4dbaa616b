/-
  The contract of chapter 5's model PropSet.
-/
import Derived.Test.YtnamdleebijcbaaObjS
namespace Go.Proofs.Ytnamdleebijcbaa
open Go.RowKit

set_option maxHeartbeats 8000000 in
set_option maxRecDepth 100000 in
theorem spec_PropSet_ok (w : World) (ao : Option Addr) (cap : Nat) (zs : List Int) (obj name v : Int) (hI : Ints w ao zs) (hl : zs.length ≤ 1048576) (hob : -9223372036854775808 ≤ obj ∧ obj ≤ 9223372036854775807) (hnb : -9223372036854775808 ≤ name ∧ name ≤ 9223372036854775807) (hvb : -9223372036854775808 ≤ v ∧ v ≤ 9223372036854775807) :
    Calls Try.prog 5 #[.agg #[.slice ao zs.length cap], .int .i64 obj, .int .i64 name, .int .i64 v] w fun e w' => ∃ u, e = .returned (.tuple #[.agg #[u], .bool (propC zs obj name v).2]) ∧ OwnR w' w.heap.size u (propC zs obj name v).1 ∧ Kept w w' ∧ FullV w' u := by
  have b0 := (Cells.new w 26 #[.slice ao zs.length cap]).alloc (.cells #[.slice none 0 0] 26)
  have b1 := Cells.new (w.alloc (.cells #[.slice ao zs.length cap] 26)) 26 #[.slice none 0 0]
  have k0 : Kept w ((w.alloc (.cells #[.slice ao zs.length cap] 26)).alloc (.cells #[.slice none 0 0] 26)) := (Kept.alloc (Below.refl _ _) _).alloc _
  simp only [World.size_alloc] at b1
  have HZ : Hid (∀ (u : World), Kept w u → Calls Try.prog 15 #[.agg #[.slice ao zs.length cap]] u fun e w' => ∃ v, e = .returned (.agg #[v]) ∧ OwnR w' u.heap.size v (zeroL zs) ∧ Kept u w' ∧ FullV w' v) := fun u hu => l5Zero_ok u ao cap zs (hI.kept hu) hl
  have c0' := b0.cell 0
  by_cases hn4 : name % 8 = 4
  · have hn' : (name % 8 != 4) = false := by simp [hn4]
    by_cases hv7 : v % 8 = 7
    · have hv' : (v % 8 == 7) = true := by simp [hv7]
      have HC : Hid (propC zs obj name v = (zeroL zs, false)) := by simp [Hid, propC, hv7]
      clear hv7 hn4
      go_enter Try.func5, Try.ntmps5
      go_wp2_with (first | (go_at_call 12; refine (spec_Kind_ok _ _).mono ?_; rintro e wx ⟨rfl, rfl⟩) | (go_at_call 15; refine (HZ.out _ k0).mono ?_; rintro e wz ⟨vz, rfl, oz, hkz, fvz⟩; obtain ⟨laz, lcz, rfl, _⟩ := oz.ints; have xz := b1.kept hkz; have dz := xz.cell 0; have fz := xz.frozen 0; have lz := xz.lt))
      have q := (xz.set1 (.slice laz (zeroL zs).length lcz)).cell 0
      refine bodyPost_ret (v := .tuple #[.agg #[.slice laz (zeroL zs).length lcz], .bool false]) (by simp [results, Try.results5, go_sem, q]) rfl ?_
      rw [HC.out]
      refine ⟨_, rfl, ?_, (k0.trans hkz).set (by simp) _, fvz.set _ _ _⟩
      rcases oz with ⟨h1, h2⟩ | ⟨g3, c3, h1, h2, h3, h4⟩
      · exact .inl ⟨h1, h2⟩
      · simp only [World.size_alloc] at h2
        exact .inr ⟨g3, c3, h1, by omega, h3, h4.other (by intro h; simp at h <;> omega) _⟩
    · have hv' : (v % 8 == 7) = false := by simp [hv7]
      have hIs := l5Is_at _ ao cap zs [obj, name, v] 3 5 #[.int .i64 obj, .int .i64 name, .int .i64 v] rfl rfl (by simpa using ⟨hob, hnb, hvb⟩) (by omega) (by omega) (hI.kept k0) hl
      simp only [World.size_alloc] at hIs
      have c0 := (b0.alloc (.cells #[.int .i64 obj, .int .i64 name, .int .i64 v] 3)).cell 0
      cases hi : isR zs [obj, name, v] 5 with
      | false =>
        have HC : Hid (propC zs obj name v = (zeroL zs, false)) := by simp [Hid, propC, hi]
        rw [hi] at hIs
        clear hv7 hn4 hi
        go_enter Try.func5, Try.ntmps5
        go_wp2_with (first | (go_at_call 12; refine (spec_Kind_ok _ _).mono ?_; rintro e wx ⟨rfl, rfl⟩) | (go_at_call 13; refine hIs.mono ?_; rintro e w1 ⟨rfl, hk1⟩; have d0 := (b0.kept hk1).cell 0) | (go_at_call 15; refine (HZ.out _ (k0.trans hk1)).mono ?_; rintro e wz ⟨vz, rfl, oz, hkz, fvz⟩; obtain ⟨laz, lcz, rfl, _⟩ := oz.ints; have xz := (b1.kept hk1).kept hkz; have dz := xz.cell 0; have fz := xz.frozen 0; have lz := xz.lt))
        have hs0 := hk1.size
        simp only [World.size_alloc] at hs0
        have q := (xz.set1 (.slice laz (zeroL zs).length lcz)).cell 0
        refine bodyPost_ret (v := .tuple #[.agg #[.slice laz (zeroL zs).length lcz], .bool false]) (by simp [results, Try.results5, go_sem, q]) rfl ?_
        rw [HC.out]
        refine ⟨_, rfl, ?_, ((k0.trans hk1).trans hkz).set (by simp) _, fvz.set _ _ _⟩
        rcases oz with ⟨h1, h2⟩ | ⟨g3, c3, h1, h2, h3, h4⟩
        · exact .inl ⟨h1, h2⟩
        · exact .inr ⟨g3, c3, h1, by omega, h3, h4.other (by intro h; simp at h <;> omega) _⟩
      | true =>
        rw [hi] at hIs
        obtain ⟨hh, h5, hls⟩ := isR_facts hi
        have h5' : obj % 8 = 5 := h5
        have hle : leadsR zs obj 5 = true := hls 0 (by simp)
        have hO := fun (u : World) (hu : Kept w u) => l5Round_ok u ao cap zs obj (hI.kept hu) hl hh h5' hle
        cases hr : roundR zs obj with
        | true =>
          have HC : Hid (propC zs obj name v = (zeroL zs, false)) := by simp [Hid, propC, hr]
          rw [hr] at hO
          have HO : Hid _ := hO
          clear hv7 hn4 hi hr h5 h5' hle hls hh hO
          go_enter Try.func5, Try.ntmps5
          go_wp2_with (first | (go_at_call 12; refine (spec_Kind_ok _ _).mono ?_; rintro e wx ⟨rfl, rfl⟩) | (go_at_call 13; refine hIs.mono ?_; rintro e w1 ⟨rfl, hk1⟩; have d0 := (b0.kept hk1).cell 0) | (go_at_call 14; refine (HO.out _ (k0.trans hk1)).mono ?_; rintro e w2 ⟨rfl, hk2⟩; have d00 := ((b0.kept hk1).kept hk2).cell 0) | (go_at_call 15; refine (HZ.out _ ((k0.trans hk1).trans hk2)).mono ?_; rintro e wz ⟨vz, rfl, oz, hkz, fvz⟩; obtain ⟨laz, lcz, rfl, _⟩ := oz.ints; have xz := ((b1.kept hk1).kept hk2).kept hkz; have dz := xz.cell 0; have fz := xz.frozen 0; have lz := xz.lt))
          have hs0 := hk1.size
          have hs1 := hk2.size
          simp only [World.size_alloc] at hs0
          have q := (xz.set1 (.slice laz (zeroL zs).length lcz)).cell 0
          refine bodyPost_ret (v := .tuple #[.agg #[.slice laz (zeroL zs).length lcz], .bool false]) (by simp [results, Try.results5, go_sem, q]) rfl ?_
          rw [HC.out]
          refine ⟨_, rfl, ?_, (((k0.trans hk1).trans hk2).trans hkz).set (by simp) _, fvz.set _ _ _⟩
          rcases oz with ⟨h1, h2⟩ | ⟨g3, c3, h1, h2, h3, h4⟩
          · exact .inl ⟨h1, h2⟩
          · exact .inr ⟨g3, c3, h1, by omega, h3, h4.other (by intro h; simp at h <;> omega) _⟩
        | false =>
          have HC0 : Hid (propC zs obj name v = ((setC zs obj name v).1, (setC zs obj name v).2.2)) := by simp [Hid, propC, hn4, hv7, hi, hr]
          rw [hr] at hO
          have HO : Hid _ := hO
          have hT := fun (u : World) (g c : Nat) (hu : Row u g zs) => l5Set_ok u g c zs obj name v hu hl hh h5' hle hnb hvb
          have hrl := setC_len zs obj name v
          obtain ⟨rs, hrs⟩ : ∃ rs, (setC zs obj name v).1 = rs := ⟨_, rfl⟩
          obtain ⟨x, hx⟩ : ∃ x, (setC zs obj name v).2.1 = x := ⟨_, rfl⟩
          obtain ⟨y, hy⟩ : ∃ y, (setC zs obj name v).2.2 = y := ⟨_, rfl⟩
          have HC : Hid (propC zs obj name v = (rs, y)) := by show _ = _; rw [HC0.out, hrs, hy]
          rw [hrs, hx, hy] at hT
          rw [hrs] at hrl
          clear hv7 hn4 hi hr h5 h5' hle hls hh hO HC0 hrs hx hy
          go_enter Try.func5, Try.ntmps5
          go_wp2_with (first | (go_at_call 12; refine (spec_Kind_ok _ _).mono ?_; rintro e wx ⟨rfl, rfl⟩) | (go_at_call 13; refine hIs.mono ?_; rintro e w1 ⟨rfl, hk1⟩; have d0 := (b0.kept hk1).cell 0) | (go_at_call 14; refine (HO.out _ (k0.trans hk1)).mono ?_; rintro e w2 ⟨rfl, hk2⟩; have d00 := ((b0.kept hk1).kept hk2).cell 0) | (go_at_call 17; refine (l2Copy_ok _ ao cap zs ((hI.kept ((k0.trans hk1).trans hk2))) hl).mono ?_; rintro e wc ⟨gc, cc, rfl, hgc, hcc, hRc, hkc, szc⟩) | (go_at_call 16; refine (hT _ gc cc hRc).mono ?_; rintro e wm ⟨rfl, hRm, hGm⟩; have hs0 := hk1.size; have hs1 := hk2.size; simp only [World.size_alloc] at hs0; have xm := (((b1.kept hk1).kept hk2).kept hkc).grown hGm.1 (by intro e; simp at e; omega); have dm := xm.cell 0; have fm := xm.frozen 0; have lm := xm.lt))
          have km := (((k0.trans hk1).trans hk2).trans hkc).grownRow hGm.1 (fun k e => by cases e; omega)
          have q := ((xm.set1 (.slice (some ⟨gc, 0, none⟩) zs.length cc)).alloc (.cells #[.slice (some ⟨gc, 0, none⟩) zs.length cc] 26)).cell 0
          refine bodyPost_ret (v := .tuple #[.agg #[.slice (some ⟨gc, 0, none⟩) zs.length cc], .bool y]) (by simp [results, Try.results5, go_sem, q]) rfl ?_
          rw [HC.out]
          exact ⟨_, rfl, .inr ⟨gc, cc, by rw [hrl], by omega, by rw [hrl]; exact hcc, (hRm.other (by intro h; simp at h <;> omega) _).kept (Kept.alloc (Below.refl _ _) _)⟩, (km.set (by simp) _).alloc _, FullV.one (((hGm.2 _ szc).set _ _ _).kept (Kept.alloc (Below.refl _ _) _))⟩
  · have hn' : (name % 8 != 4) = true := by simp [hn4]
    have HC : Hid (propC zs obj name v = (zeroL zs, false)) := by simp [Hid, propC, hn4]
    clear hn4
    go_enter Try.func5, Try.ntmps5
    go_wp2_with (first | (go_at_call 12; refine (spec_Kind_ok _ _).mono ?_; rintro e wx ⟨rfl, rfl⟩) | (go_at_call 15; refine (HZ.out _ k0).mono ?_; rintro e wz ⟨vz, rfl, oz, hkz, fvz⟩; obtain ⟨laz, lcz, rfl, _⟩ := oz.ints; have xz := b1.kept hkz; have dz := xz.cell 0; have fz := xz.frozen 0; have lz := xz.lt))
    have q := (xz.set1 (.slice laz (zeroL zs).length lcz)).cell 0
    refine bodyPost_ret (v := .tuple #[.agg #[.slice laz (zeroL zs).length lcz], .bool false]) (by simp [results, Try.results5, go_sem, q]) rfl ?_
    rw [HC.out]
    refine ⟨_, rfl, ?_, (k0.trans hkz).set (by simp) _, fvz.set _ _ _⟩
    rcases oz with ⟨h1, h2⟩ | ⟨g3, c3, h1, h2, h3, h4⟩
    · exact .inl ⟨h1, h2⟩
    · simp only [World.size_alloc] at h2
      exact .inr ⟨g3, c3, h1, by omega, h3, h4.other (by intro h; simp at h <;> omega) _⟩
end Go.Proofs.Ytnamdleebijcbaa
