/-
  How many words the blocks have that a machine's roots reach (chapter 18): impl.Live, spec.Live exactly.
-/
import Derived.Deep.CutRange
import Derived.Deep.RegionWith
import Derived.Test.YtgempjjnfpmndaaGreatDoorGrpMi
import Derived.Test.YtgempjjnfpmndaaGreatDoorGrpNu
namespace Go.Proofs.YtgempjjnfpmndaaGreatDoor
open Go.RowKit
set_option linter.unusedSimpArgs false
set_option linter.unusedVariables false
/-- The sizes of the blocks at the places l. -/
def szsI (zs l : List Int) : Nat := (l.map (fun a => sz zs a.toNat)).sum
theorem szsI_perm {zs l m : List Int} (h : l.Perm m) : szsI zs l = szsI zs m := (h.map _).sum_nat
theorem szsI_succ {zs l : List Int} {k : Nat} {a : Int} (h : l[k]? = some a) : szsI zs (l.take (k + 1)) = szsI zs (l.take k) + sz zs a.toNat := by
  obtain ⟨h1, h2⟩ := List.getElem?_eq_some_iff.1 h
  rw [List.take_succ_eq_append_getElem h1]
  simp [szsI, h2]
theorem szsI_le {zs : List Int} {n : Nat} : ∀ {l : List Int}, (∀ a ∈ l, sz zs a.toNat ≤ n) → szsI zs l ≤ l.length * n
  | [], _ => by simp [szsI]
  | a :: l, h => by
    have h1 := szsI_le (l := l) (fun x hx => h x (List.mem_cons_of_mem _ hx))
    have h2 := h a (List.mem_cons_self ..)
    simp only [szsI, List.map_cons, List.sum_cons, List.length_cons] at h1 ⊢
    rw [Nat.add_mul, Nat.one_mul]
    omega
theorem sortL_perm {l : List Int} (h : l.Nodup) : (sortL l).Perm l := by
  rw [← sorted_same h h (fun _ => Iff.rfl)]
  exact List.mergeSort_perm _ _
/-- How many words are reached. -/
def liveN (m : Mch) : Nat := if machR m = true ∧ m.ph ≠ 2 then szsI m.zs (ordL m.zs (rootsM m)) else 0
theorem roots_of {m : Mch} (h : machR m = true) (hp : m.ph ≠ 2) : rootsR m.zs (rootsM m) = true := by
  unfold machR rootM at h
  simp only [Bool.and_eq_true] at h
  have := h.2.2.2.2
  rwa [if_neg hp] at this
/-- The places l are those of blocks. -/
def PlsOk (zs l : List Int) : Prop := l.length ≤ zs.length ∧ ∀ a ∈ l, ∃ n : Nat, a = n ∧ Good zs n
theorem PlsOk.of {zs l : List Int} (h : Met zs l) : PlsOk zs l := ⟨h.len, fun a ha => by
  obtain ⟨n, e, _, hg, _⟩ := kind_nat (h.2 a ha)
  exact ⟨n, e, hg⟩⟩
theorem PlsOk.sum {zs l : List Int} (h : PlsOk zs l) (hl : zs.length ≤ 1048576) : szsI zs l ≤ 1099511627776 := by
  have h1 := szsI_le (zs := zs) (n := 1048576) (l := l) (fun a ha => by
    obtain ⟨n, rfl, hg⟩ := h.2 a ha
    have := hg.le
    simp
    omega)
  have := h.1
  omega
theorem PlsOk.at' {zs l : List Int} (h : PlsOk zs l) {k : Nat} (hk : k < l.length) : ∃ n : Nat, l[k]? = some (n : Int) ∧ Good zs n := by
  obtain ⟨n, e, hg⟩ := h.2 l[k] (List.getElem_mem _)
  exact ⟨n, by rw [List.getElem?_eq_getElem hk, e], hg⟩
theorem szsI_take {zs l : List Int} (k : Nat) : szsI zs (l.take k) ≤ szsI zs l := by
  have : szsI zs l = szsI zs (l.take k) + szsI zs (l.drop k) := by
    unfold szsI
    rw [← List.sum_append, ← List.map_append, List.take_append_drop]
  omega
set_option maxHeartbeats 16000000 in
set_option maxRecDepth 100000 in
theorem spec_Live_ok (w : World) (h : MchH) (m : Mch) (hA : MchA w h m) (hL : MchLe m) (hW : MchWf h m) (hkn : h.ka ≠ none) :
    Calls Tryz.prog 7 #[.agg (mchC h m)] w fun e w' => e = .returned (.int .i64 (liveN m : Nat)) ∧ Kept w w' := by
  obtain ⟨W0, hW0⟩ : ∃ W0, w.alloc (.cells (mchC h m) 43) = W0 := ⟨_, rfl⟩
  have X : Hid (∀ u, Kept W0 u → Cells u w.heap.size 43 (mchC h m)) := fun u hu => (hW0 ▸ Cells.new w 43 (mchC h m) : Cells W0 _ _ _).kept hu
  have k0 : Kept w W0 := hW0 ▸ Kept.alloc (Below.refl _ _) _
  have HK0 : Hid (Kept w W0) := k0
  have hM := spec_MachineOk_ok W0 h m (hA.kept k0) hL hW hkn
  cases hr : machR m
  · rw [hr] at hM
    rw [show liveN m = 0 by simp [liveN, hr]]
    have a0 := (X.out _ (Below.refl _ _)).m0
    have a1 := (X.out _ (Below.refl _ _)).m1
    have a2 := (X.out _ (Below.refl _ _)).m2
    have a3 := (X.out _ (Below.refl _ _)).m3
    have a4 := (X.out _ (Below.refl _ _)).m4
    have a5 := (X.out _ (Below.refl _ _)).m5
    have a6 := (X.out _ (Below.refl _ _)).m6
    have a7 := (X.out _ (Below.refl _ _)).m7
    have a8 := (X.out _ (Below.refl _ _)).m8
    have a9 := (X.out _ (Below.refl _ _)).m9
    have a10 := (X.out _ (Below.refl _ _)).m10
    have a11 := (X.out _ (Below.refl _ _)).m11
    clear hA hL hW hkn hr k0
    go_enter Tryz.func7, Tryz.ntmps7
    go_upto_region 1 with (fail)
    try simp only [hW0]
    clear hW0
    go_wp2_with fail
    refine hM.mono ?_
    rintro e w1 ⟨rfl, k1⟩
    go_wp2_with fail
    go_ret
    exact ⟨rfl, Kept.trans HK0.out k1⟩
  rw [hr] at hM
  by_cases hp : m.ph = 2
  · rw [show liveN m = 0 by simp [liveN, hp]]
    have a0 := (X.out _ (Below.refl _ _)).m0
    have a1 := (X.out _ (Below.refl _ _)).m1
    have a2 := (X.out _ (Below.refl _ _)).m2
    have a3 := (X.out _ (Below.refl _ _)).m3
    have a4 := (X.out _ (Below.refl _ _)).m4
    have a5 := (X.out _ (Below.refl _ _)).m5
    have a6 := (X.out _ (Below.refl _ _)).m6
    have a7 := (X.out _ (Below.refl _ _)).m7
    have a8 := (X.out _ (Below.refl _ _)).m8
    have a9 := (X.out _ (Below.refl _ _)).m9
    have a10 := (X.out _ (Below.refl _ _)).m10
    have a11 := (X.out _ (Below.refl _ _)).m11
    have HPh : Hid (m.ph = 2) := hp
    clear hp hA hL hW hkn hr k0
    go_enter Tryz.func7, Tryz.ntmps7
    go_upto_region 1 with (fail)
    try simp only [hW0]
    clear hW0
    go_wp2_with fail
    refine hM.mono ?_
    rintro e w1 ⟨rfl, k1⟩
    clear a3
    have a3 := (X.out _ k1).m3
    rw [HPh.out] at a3
    go_wp2_with fail
    go_ret
    exact ⟨rfl, Kept.trans HK0.out k1⟩
  have hrr := roots_of hr hp
  have hpl := PlsOk.of (ordL_met hrr)
  rw [show liveN m = szsI m.zs (ordL m.zs (rootsM m)) by simp [liveN, hr, hp]]
  have HRo : Hid (∀ u, Kept W0 u → Calls Tryz.prog 28 #[.agg (mchC h m)] u fun e w' => ∃ v, e = .returned v ∧ OwnL w' u.heap.size v (rootsM m) ∧ Kept u w') := fun u hu => spec_Roots_ok u h m (hA.k.kept (k0.trans hu)) (hA.f.kept (k0.trans hu)) hL.k hL.f hW.f hkn
  have HOr : Hid (∀ u ro rc, Kept W0 u → Ints u ro (rootsM m) → Calls Tryz.prog 27 #[.agg #[.slice h.sa m.zs.length h.sc], .slice ro (rootsM m).length rc] u fun e w' => ∃ v, e = .returned v ∧ OwnL w' u.heap.size v (ordL m.zs (rootsM m)) ∧ Kept u w') := fun u ro rc hu hI => l7Order_ok u h.sa ro h.sc rc m.zs (rootsM m) (hA.z.kept (k0.trans hu)) hL.z hI (by have := hL.kf; simp [rootsM]; omega) hrr
  obtain ⟨L, hLL⟩ : ∃ x, ordL m.zs (rootsM m) = x := ⟨_, rfl⟩
  obtain ⟨n, hn⟩ : ∃ x, L.length = x := ⟨_, rfl⟩
  have HZ : Hid (∀ u, Kept W0 u → Ints u h.sa m.zs) := fun u hu => hA.z.kept (k0.trans hu)
  have hzl := hL.z
  rw [hLL] at HOr hpl ⊢
  have HP : Hid _ := hpl
  have hnl : n ≤ 1048576 := by have := hpl.1; omega
  have hsl := hpl.sum hzl
  have HN : Hid (L.length = n) := hn
  have HX2 : Hid (∀ u, Kept W0 u → u.cell? ⟨w.heap.size, 2, none⟩ = some (.slice h.sa m.zs.length h.sc)) := fun u hu => (X.out u hu).m2
  obtain ⟨zs, hzs⟩ : ∃ x, m.zs = x := ⟨_, rfl⟩
  rw [hzs] at HP HZ HX2 hzl hsl ⊢
  have HS : Hid (szsI zs L ≤ 1099511627776) := hsl
  clear hzs hsl
  have a0 := (X.out _ (Below.refl _ _)).m0
  have a1 := (X.out _ (Below.refl _ _)).m1
  have a2 := (X.out _ (Below.refl _ _)).m2
  have a3 := (X.out _ (Below.refl _ _)).m3
  have a4 := (X.out _ (Below.refl _ _)).m4
  have a5 := (X.out _ (Below.refl _ _)).m5
  have a6 := (X.out _ (Below.refl _ _)).m6
  have a7 := (X.out _ (Below.refl _ _)).m7
  have a8 := (X.out _ (Below.refl _ _)).m8
  have a9 := (X.out _ (Below.refl _ _)).m9
  have a10 := (X.out _ (Below.refl _ _)).m10
  have a11 := (X.out _ (Below.refl _ _)).m11
  clear hA hL hW hkn hr k0 hrr hLL hpl hn
  go_enter Tryz.func7, Tryz.ntmps7
  go_upto_region 1 with (fail)
  try simp only [hW0]
  clear hW0
  go_wp2_with fail
  refine hM.mono ?_
  rintro e w1 ⟨rfl, k1⟩
  clear hM a0 a1 a2 a3 a4 a5 a6 a7 a8 a9 a10 a11
  have a0 := (X.out _ k1).m0
  have a1 := (X.out _ k1).m1
  have a2 := (X.out _ k1).m2
  have a3 := (X.out _ k1).m3
  have a4 := (X.out _ k1).m4
  have a5 := (X.out _ k1).m5
  have a6 := (X.out _ k1).m6
  have a7 := (X.out _ k1).m7
  have a8 := (X.out _ k1).m8
  have a9 := (X.out _ k1).m9
  have a10 := (X.out _ k1).m10
  have a11 := (X.out _ k1).m11
  have qp : (m.ph == 2) = false := by simpa using hp
  go_upto_region 4 with (fail)
  have kd : Kept w1 w1.drew := (Below.refl _ w1).drew
  have hRo := HRo.out _ (k1.trans kd)
  have HW1 : Hid (∀ u, Kept w1.drew u → Kept W0 u) := fun u hu => k1.trans (kd.trans hu)
  clear a0 a1 a2 a3 a4 a5 a6 a7 a8 a9 a10 a11
  have a0 := (X.out _ (k1.trans kd)).m0
  have a1 := (X.out _ (k1.trans kd)).m1
  have a2 := (X.out _ (k1.trans kd)).m2
  have a3 := (X.out _ (k1.trans kd)).m3
  have a4 := (X.out _ (k1.trans kd)).m4
  have a5 := (X.out _ (k1.trans kd)).m5
  have a6 := (X.out _ (k1.trans kd)).m6
  have a7 := (X.out _ (k1.trans kd)).m7
  have a8 := (X.out _ (k1.trans kd)).m8
  have a9 := (X.out _ (k1.trans kd)).m9
  have a10 := (X.out _ (k1.trans kd)).m10
  have a11 := (X.out _ (k1.trans kd)).m11
  go_cut [4] from 16 to 20 (fun s wx => ∃ ao cap, s = .slice ao n cap ∧ Ints wx ao L ∧ Kept w1 wx)
  case first =>
    go_region_with (first
      | (have _t := k2; go_at_call 27; refine (HOr.out _ _ _ (HW1.out _ k2) I2).mono ?_; rintro e w3 ⟨v3, rfl, O3, k3⟩; obtain ⟨oa, oc, rfl, I3⟩ := O3.ints)
      | (go_at_call 28; refine hRo.mono ?_; rintro e w2 ⟨v2, rfl, O2, k2⟩; obtain ⟨ra, rc, rfl, I2⟩ := O2.ints; clear a0 a1 a2 a3 a4 a5 a6 a7 a8 a9 a10 a11; have a0 := (X.out _ (HW1.out _ k2)).m0; have a1 := (X.out _ (HW1.out _ k2)).m1; have a2 := (X.out _ (HW1.out _ k2)).m2; have a3 := (X.out _ (HW1.out _ k2)).m3; have a4 := (X.out _ (HW1.out _ k2)).m4; have a5 := (X.out _ (HW1.out _ k2)).m5; have a6 := (X.out _ (HW1.out _ k2)).m6; have a7 := (X.out _ (HW1.out _ k2)).m7; have a8 := (X.out _ (HW1.out _ k2)).m8; have a9 := (X.out _ (HW1.out _ k2)).m9; have a10 := (X.out _ (HW1.out _ k2)).m10; have a11 := (X.out _ (HW1.out _ k2)).m11))
    all_goals (
      go_wp2_with fail
      go_meet
      exact ⟨_, _, by rw [HN.out], I3, (kd.trans k2).trans k3⟩)
  case rest =>
  obtain ⟨ao, cap, rfl, hI, hk⟩ := hcut
  have hK := k1.trans hk
  have HI2 : Hid _ := hI
  have HK2 : Hid _ := hK
  clear hRo hI hK hk a0 a1 a2 a3 a4 a5 a6 a7 a8 a9 a10 a11
  clear HOr HRo HW1 kd k1 qp hp
  go_wp2_with fail
  go_loopw [3, 5] (fun s i wr => ∃ k : Nat, i = .int .i64 k ∧ s = .int .i64 (szsI zs (L.take k) : Nat) ∧ k ≤ n ∧ Hid (Ints wr ao L) ∧ Hid (Kept W0 wr)) (fun _ i _ => n - (intOf i).toNat)
  case atStart => exact ⟨0, rfl, rfl, Nat.zero_le _, HI2.out, HK2.out⟩
  case round =>
    obtain ⟨k, rfl, rfl, hk, HI, HK⟩ := hrel
    by_cases hlt : k < n
    · have hkl : k < L.length := by rw [HN.out]; exact hlt
      obtain ⟨p, hp1, hg⟩ := PlsOk.at' HP.out hkl
      obtain ⟨b, off, rfl, hc⟩ := HI.out.at hkl
      obtain ⟨b2, off2, hsa, hc2⟩ := (HZ.out _ HK.out).at hg.lt
      have c1 := hc k hkl
      rw [show hz L k = (p : Int) by simp [hz, hp1]] at c1
      have c2 := hc2 p hg.lt
      have c3 := HX2.out _ HK.out
      rw [hsa] at c3
      have hz1 : hz zs p / 8 = ((sz zs p : Nat) : Int) := by have := hg.2.2.1; unfold sz; omega
      obtain ⟨Z, hZ⟩ : ∃ x, hz zs p = x := ⟨_, rfl⟩
      obtain ⟨S, hS⟩ : ∃ x, szsI zs (L.take k) = x := ⟨_, rfl⟩
      obtain ⟨V, hV⟩ : ∃ x, sz zs p = x := ⟨_, rfl⟩
      have hsum : szsI zs (L.take (k + 1)) = S + V := by rw [szsI_succ hp1, hS]; simp [hV]
      have hle : S + V ≤ 1099511627776 := by have := szsI_take (zs := zs) (l := L) (k + 1); have := HS.out; omega
      have HSum : Hid _ := hsum
      have hpl := hg.lt
      rw [hZ] at c2 hz1
      rw [hV] at hz1
      rw [hS]
      have C1 : Hid (∀ u, Kept wr.drew u → Calls Tryz.prog 29 #[.int .i64 Z] u fun e w' => e = .returned (.int .i64 (V : Nat)) ∧ Kept u w') := fun u _ => (l2Size_ok Z u).mono (fun e w' ⟨h1, h2⟩ => ⟨by rw [h1, hz1], h2 ▸ Below.refl _ _⟩)
      have l1 := World.block_lt_of_cell? _ _ c1
      have l2 := World.block_lt_of_cell? _ _ c2
      have l3 := World.block_lt_of_cell? _ _ c3
      have y1 : ∀ u, Kept wr.drew u → u.cell? ⟨b, off + k, none⟩ = some (.int .i64 p) ∧ u.cell? ⟨b2, off2 + p, none⟩ = some (.int .i64 Z) ∧ u.cell? ⟨w.heap.size, 2, none⟩ = some (.slice (some ⟨b2, off2, none⟩) zs.length h.sc) := fun u hu => by
        have kk := Kept.trans (Below.refl _ wr).drew hu
        exact ⟨(kk.cell (p := ⟨b, off + k, none⟩) l1).trans c1, (kk.cell (p := ⟨b2, off2 + p, none⟩) l2).trans c2, (kk.cell (p := ⟨w.heap.size, 2, none⟩) l3).trans c3⟩
      have q0 : (0 : Int) ≤ (k : Int) := by omega
      have q1 : (k : Int) < (n : Int) := by omega
      have q2 : (0 : Int) ≤ (p : Int) := by omega
      have q3 : (p : Int) < (zs.length : Int) := by omega
      have hww : IntKind.i64.wrap ((S : Int) + (V : Int)) = ((S + V : Nat) : Int) := by rw [IntKind.wrap_i64]; omega
      rw [HN.out] at hkl
      clear hp1 hg hc hc2 c1 c2 c3 hsa hz1 hZ hS hV hsum hpl l1 l2 l3
      go_wp2_with fail
      refine wp_region_seqL (by kernel_rfl) (by kernel_rfl) ?_
      repeat (first
        | (refine SeqL.skip (by rfl) ?_; simp only [Act.put, List.setIfInBounds_toArray, List.set_cons_zero, List.set_cons_succ])
        | (refine SeqL.pure ?_ (by rfl) ?_ ?_; rotate_left; (focus (intro u hu; obtain ⟨e1, e2, e3⟩ := y1 u hu; go_simp; first | done | exact rfl)); simp only [Act.put, List.setIfInBounds_toArray, List.set_cons_zero, List.set_cons_succ])
        | (refine SeqL.call _ _ _ (by rfl) ?_ C1.out ?_; (focus (intro u; go_simp; done)); simp only [Act.put, List.setIfInBounds_toArray, List.set_cons_zero, List.set_cons_succ]))
      refine SeqL.nil ?_
      intro w2 hu2
      have k2 : Kept wr w2 := Kept.trans (Below.refl _ wr).drew hu2
      clear y1 C1 hu2
      go_wp2_with fail
      go_roundw
      case rel => exact ⟨k + 1, by go_num, by rw [HSum.out]; first | exact congrArg (Value.int .i64) hww | (simp [hww]), by omega, Ints.kept HI.out k2, Kept.trans HK.out k2⟩
      case measure => simp [intOf]; omega
    · obtain rfl : k = n := by omega
      have q1 : ¬ (k : Int) < (k : Int) := by omega
      have HE : Hid (L.take k = L) := by rw [Hid]; exact List.take_of_length_le (by rw [HN.out]; exact Nat.le_refl _)
      go_wp2_with fail
      go_ret
      exact ⟨by rw [HE.out]; rfl, Kept.trans HK0.out HK.out⟩
set_option maxHeartbeats 16000000 in
set_option maxRecDepth 100000 in
theorem impl_Live_ok (w : World) (h : MchH) (m : Mch) (hA : MchA w h m) (hL : MchLe m) (hW : MchWf h m) (hgn : h.ga = none → h.gc = 0) (hFm : Forms w) :
    Calls Tryz.prog 9 #[.agg (mchC h m)] w fun e w' => e = .returned (.int .i64 (liveN m : Nat)) ∧ Kept w w' := by
  obtain ⟨W0, hW0⟩ : ∃ W0, w.alloc (.cells (mchC h m) 43) = W0 := ⟨_, rfl⟩
  have X : Hid (∀ u, Kept W0 u → Cells u w.heap.size 43 (mchC h m)) := fun u hu => (hW0 ▸ Cells.new w 43 (mchC h m) : Cells W0 _ _ _).kept hu
  have k0 : Kept w W0 := hW0 ▸ Kept.alloc (Below.refl _ _) _
  have HK0 : Hid (Kept w W0) := k0
  have hM := impl_MachineOk_ok W0 h m (hA.kept k0) hL hW hgn (hFm.kept k0)
  cases hr : machR m
  · rw [hr] at hM
    rw [show liveN m = 0 by simp [liveN, hr]]
    have a0 := (X.out _ (Below.refl _ _)).m0
    have a1 := (X.out _ (Below.refl _ _)).m1
    have a2 := (X.out _ (Below.refl _ _)).m2
    have a3 := (X.out _ (Below.refl _ _)).m3
    have a4 := (X.out _ (Below.refl _ _)).m4
    have a5 := (X.out _ (Below.refl _ _)).m5
    have a6 := (X.out _ (Below.refl _ _)).m6
    have a7 := (X.out _ (Below.refl _ _)).m7
    have a8 := (X.out _ (Below.refl _ _)).m8
    have a9 := (X.out _ (Below.refl _ _)).m9
    have a10 := (X.out _ (Below.refl _ _)).m10
    have a11 := (X.out _ (Below.refl _ _)).m11
    clear hA hL hW hgn hFm hr k0
    go_enter Tryz.func9, Tryz.ntmps9
    go_upto_region 1 with (fail)
    try simp only [hW0]
    clear hW0
    go_wp2_with fail
    refine hM.mono ?_
    rintro e w1 ⟨rfl, k1⟩
    go_wp2_with fail
    go_ret
    exact ⟨rfl, Kept.trans HK0.out k1⟩
  rw [hr] at hM
  by_cases hp : m.ph = 2
  · rw [show liveN m = 0 by simp [liveN, hp]]
    have a0 := (X.out _ (Below.refl _ _)).m0
    have a1 := (X.out _ (Below.refl _ _)).m1
    have a2 := (X.out _ (Below.refl _ _)).m2
    have a3 := (X.out _ (Below.refl _ _)).m3
    have a4 := (X.out _ (Below.refl _ _)).m4
    have a5 := (X.out _ (Below.refl _ _)).m5
    have a6 := (X.out _ (Below.refl _ _)).m6
    have a7 := (X.out _ (Below.refl _ _)).m7
    have a8 := (X.out _ (Below.refl _ _)).m8
    have a9 := (X.out _ (Below.refl _ _)).m9
    have a10 := (X.out _ (Below.refl _ _)).m10
    have a11 := (X.out _ (Below.refl _ _)).m11
    have HPh : Hid (m.ph = 2) := hp
    clear hp hA hL hW hgn hFm hr k0
    go_enter Tryz.func9, Tryz.ntmps9
    go_upto_region 1 with (fail)
    try simp only [hW0]
    clear hW0
    go_wp2_with fail
    refine hM.mono ?_
    rintro e w1 ⟨rfl, k1⟩
    clear a3
    have a3 := (X.out _ k1).m3
    rw [HPh.out] at a3
    go_wp2_with fail
    go_ret
    exact ⟨rfl, Kept.trans HK0.out k1⟩
  have hrr := roots_of hr hp
  have hpl := PlsOk.of (ordL_met hrr)
  rw [show liveN m = szsI m.zs (ordL m.zs (rootsM m)) by simp [liveN, hr, hp]]
  have HRo : Hid (∀ u, Kept W0 u → Calls Tryz.prog 37 #[.agg (mchC h m)] u fun e w' => ∃ v, e = .returned v ∧ OwnL w' u.heap.size v (rootsM m) ∧ Kept u w') := fun u hu => impl_Roots_ok u h m (hA.k.kept (k0.trans hu)) (hA.f.kept (k0.trans hu)) hL.k hL.f hW.f
  have HOr : Hid (∀ u ro rc, Kept W0 u → Ints u ro (rootsM m) → Calls Tryz.prog 36 #[.slice h.sa m.zs.length h.sc, .slice ro (rootsM m).length rc] u fun e w' => ∃ b, e = .returned (.map (some b)) ∧ NumMap w' b (ordL m.zs (rootsM m)) ∧ Kept u w') := fun u ro rc hu hI => (metFrom_ok u h.sa ro h.sc rc m.zs (rootsM m) (hA.z.kept (k0.trans hu)) hL.z hI (by have := hL.kf; simp [rootsM]; omega) hrr).mono (fun e w' ⟨b, e1, _, e3, e4⟩ => ⟨b, e1, e3, e4⟩)
  have hmet := ordL_met hrr
  have hmb := hmet.bd hL.z
  have hml : (ordL m.zs (rootsM m)).length ≤ 1048576 := by have := hpl.1; have := hL.z; omega
  have HPl : Hid (∀ u b, NumMap u b (ordL m.zs (rootsM m)) → Calls Tryz.prog 38 #[.map (some b)] u fun e w' => ∃ v, e = .returned v ∧ OwnL w' u.heap.size v (sortL (ordL m.zs (rootsM m))) ∧ Kept u w') := fun u b h1 => places_ok u b _ hml hmb h1
  have hpm := sortL_perm hmet.1
  rw [← szsI_perm hpm]
  have hpl : PlsOk m.zs (sortL (ordL m.zs (rootsM m))) := ⟨by rw [hpm.length_eq]; exact hpl.1, fun a ha => hpl.2 a (hpm.mem_iff.1 ha)⟩
  obtain ⟨O, hOO⟩ : ∃ x, ordL m.zs (rootsM m) = x := ⟨_, rfl⟩
  rw [hOO] at HOr HPl hpl ⊢
  obtain ⟨L, hLL⟩ : ∃ x, sortL O = x := ⟨_, rfl⟩
  rw [hLL] at HPl hpl ⊢
  obtain ⟨n, hn⟩ : ∃ x, L.length = x := ⟨_, rfl⟩
  have HZ : Hid (∀ u, Kept W0 u → Ints u h.sa m.zs) := fun u hu => hA.z.kept (k0.trans hu)
  have hzl := hL.z
  have HP : Hid _ := hpl
  have hnl : n ≤ 1048576 := by have := hpl.1; omega
  have hsl := hpl.sum hzl
  have HN : Hid (L.length = n) := hn
  have HX2 : Hid (∀ u, Kept W0 u → u.cell? ⟨w.heap.size, 2, none⟩ = some (.slice h.sa m.zs.length h.sc)) := fun u hu => (X.out u hu).m2
  obtain ⟨zs, hzs⟩ : ∃ x, m.zs = x := ⟨_, rfl⟩
  rw [hzs] at HP HZ HX2 hzl hsl ⊢
  have HS : Hid (szsI zs L ≤ 1099511627776) := hsl
  clear hzs hsl
  have a0 := (X.out _ (Below.refl _ _)).m0
  have a1 := (X.out _ (Below.refl _ _)).m1
  have a2 := (X.out _ (Below.refl _ _)).m2
  have a3 := (X.out _ (Below.refl _ _)).m3
  have a4 := (X.out _ (Below.refl _ _)).m4
  have a5 := (X.out _ (Below.refl _ _)).m5
  have a6 := (X.out _ (Below.refl _ _)).m6
  have a7 := (X.out _ (Below.refl _ _)).m7
  have a8 := (X.out _ (Below.refl _ _)).m8
  have a9 := (X.out _ (Below.refl _ _)).m9
  have a10 := (X.out _ (Below.refl _ _)).m10
  have a11 := (X.out _ (Below.refl _ _)).m11
  clear hA hL hW hgn hFm hr k0 hrr hLL hpl hn hmet hmb hml hpm hOO
  go_enter Tryz.func9, Tryz.ntmps9
  go_upto_region 1 with (fail)
  try simp only [hW0]
  clear hW0
  go_wp2_with fail
  refine hM.mono ?_
  rintro e w1 ⟨rfl, k1⟩
  clear hM a0 a1 a2 a3 a4 a5 a6 a7 a8 a9 a10 a11
  have a0 := (X.out _ k1).m0
  have a1 := (X.out _ k1).m1
  have a2 := (X.out _ k1).m2
  have a3 := (X.out _ k1).m3
  have a4 := (X.out _ k1).m4
  have a5 := (X.out _ k1).m5
  have a6 := (X.out _ k1).m6
  have a7 := (X.out _ k1).m7
  have a8 := (X.out _ k1).m8
  have a9 := (X.out _ k1).m9
  have a10 := (X.out _ k1).m10
  have a11 := (X.out _ k1).m11
  have qp : (m.ph == 2) = false := by simpa using hp
  go_upto_region 4 with (fail)
  have kd : Kept w1 w1.drew := (Below.refl _ w1).drew
  have hRo := HRo.out _ (k1.trans kd)
  have HW1 : Hid (∀ u, Kept w1.drew u → Kept W0 u) := fun u hu => k1.trans (kd.trans hu)
  clear a0 a1 a2 a3 a4 a5 a6 a7 a8 a9 a10 a11
  have a0 := (X.out _ (k1.trans kd)).m0
  have a1 := (X.out _ (k1.trans kd)).m1
  have a2 := (X.out _ (k1.trans kd)).m2
  have a3 := (X.out _ (k1.trans kd)).m3
  have a4 := (X.out _ (k1.trans kd)).m4
  have a5 := (X.out _ (k1.trans kd)).m5
  have a6 := (X.out _ (k1.trans kd)).m6
  have a7 := (X.out _ (k1.trans kd)).m7
  have a8 := (X.out _ (k1.trans kd)).m8
  have a9 := (X.out _ (k1.trans kd)).m9
  have a10 := (X.out _ (k1.trans kd)).m10
  have a11 := (X.out _ (k1.trans kd)).m11
  go_cut [23, 24, 25] from 17 to 25 (fun s l z wx => ∃ ao cap, s = .slice ao n cap ∧ l = .int .i64 n ∧ z = .int .i64 0 ∧ Ints wx ao L ∧ Kept w1 wx)
  case first =>
    go_region_with (first
      | (have _t := k3; go_at_call 38; refine (HPl.out _ _ N3).mono ?_; rintro e w4 ⟨v4, rfl, O4, k4⟩; obtain ⟨oa, oc, rfl, I4⟩ := O4.ints)
      | (have _t := k2; go_at_call 36; refine (HOr.out _ _ _ (HW1.out _ k2) I2).mono ?_; rintro e w3 ⟨b3, rfl, N3, k3⟩)
      | (go_at_call 37; refine hRo.mono ?_; rintro e w2 ⟨v2, rfl, O2, k2⟩; obtain ⟨ra, rc, rfl, I2⟩ := O2.ints; clear a0 a1 a2 a3 a4 a5 a6 a7 a8 a9 a10 a11; have a0 := (X.out _ (HW1.out _ k2)).m0; have a1 := (X.out _ (HW1.out _ k2)).m1; have a2 := (X.out _ (HW1.out _ k2)).m2; have a3 := (X.out _ (HW1.out _ k2)).m3; have a4 := (X.out _ (HW1.out _ k2)).m4; have a5 := (X.out _ (HW1.out _ k2)).m5; have a6 := (X.out _ (HW1.out _ k2)).m6; have a7 := (X.out _ (HW1.out _ k2)).m7; have a8 := (X.out _ (HW1.out _ k2)).m8; have a9 := (X.out _ (HW1.out _ k2)).m9; have a10 := (X.out _ (HW1.out _ k2)).m10; have a11 := (X.out _ (HW1.out _ k2)).m11))
    all_goals (
      go_wp2_with fail
      go_meet
      exact ⟨_, _, by rw [HN.out], by rw [HN.out], rfl, I4, ((kd.trans k2).trans k3).trans k4⟩)
  case rest =>
  obtain ⟨ao, cap, rfl, rfl, rfl, hI, hk⟩ := hcut
  have hK := k1.trans hk
  have HI2 : Hid _ := hI
  have HK2 : Hid _ := hK
  clear hRo hI hK hk a0 a1 a2 a3 a4 a5 a6 a7 a8 a9 a10 a11
  clear HOr HRo HPl HW1 kd k1 qp hp
  go_wp2_with fail
  go_loopw [3, 25] (fun s i wr => ∃ k : Nat, i = .int .i64 k ∧ s = .int .i64 (szsI zs (L.take k) : Nat) ∧ k ≤ n ∧ Hid (Ints wr ao L) ∧ Hid (Kept W0 wr)) (fun _ i _ => n - (intOf i).toNat)
  case atStart => exact ⟨0, rfl, rfl, Nat.zero_le _, HI2.out, HK2.out⟩
  case round =>
    obtain ⟨k, rfl, rfl, hk, HI, HK⟩ := hrel
    by_cases hlt : k < n
    · have hkl : k < L.length := by rw [HN.out]; exact hlt
      obtain ⟨p, hp1, hg⟩ := PlsOk.at' HP.out hkl
      obtain ⟨b, off, rfl, hc⟩ := HI.out.at hkl
      obtain ⟨b2, off2, hsa, hc2⟩ := (HZ.out _ HK.out).at hg.lt
      have c1 := hc k hkl
      rw [show hz L k = (p : Int) by simp [hz, hp1]] at c1
      have c2 := hc2 p hg.lt
      have c3 := HX2.out _ HK.out
      rw [hsa] at c3
      have hz1 : hz zs p / 8 = ((sz zs p : Nat) : Int) := by have := hg.2.2.1; unfold sz; omega
      obtain ⟨Z, hZ⟩ : ∃ x, hz zs p = x := ⟨_, rfl⟩
      obtain ⟨S, hS⟩ : ∃ x, szsI zs (L.take k) = x := ⟨_, rfl⟩
      obtain ⟨V, hV⟩ : ∃ x, sz zs p = x := ⟨_, rfl⟩
      have hsum : szsI zs (L.take (k + 1)) = S + V := by rw [szsI_succ hp1, hS]; simp [hV]
      have hle : S + V ≤ 1099511627776 := by have := szsI_take (zs := zs) (l := L) (k + 1); have := HS.out; omega
      have HSum : Hid _ := hsum
      have hpl := hg.lt
      rw [hZ] at c2 hz1
      rw [hV] at hz1
      rw [hS]
      have C1 := readBlock_good wr h.sa h.sc zs p (HZ.out _ HK.out) hg (by omega)
      rw [hsa] at C1
      have l1 := World.block_lt_of_cell? _ _ c1
      have q0 : (0 : Int) ≤ (k : Int) := by omega
      have q1 : (k : Int) < (n : Int) := by omega
      have q2 : (0 : Int) ≤ (p : Int) := by omega
      have q3 : (p : Int) < (zs.length : Int) := by omega
      have hww : IntKind.i64.wrap ((S : Int) + (V : Int)) = ((S + V : Nat) : Int) := by rw [IntKind.wrap_i64]; omega
      have hw0 : -9223372036854775808 ≤ (S : Int) + (V : Int) := by omega
      have hw1 : (S : Int) + (V : Int) ≤ 9223372036854775807 := by omega
      rw [HN.out] at hkl
      rw [hV] at C1
      clear hp1 hg hc hc2 hsa hz1 hZ hS hV hsum hpl l1
      go_wp2_with (go_at_call 39; refine C1.mono ?_; rintro e w2 ⟨rfl, k2⟩)
      go_roundw
      case rel => exact ⟨k + 1, by go_num, by rw [HSum.out]; first | exact congrArg (Value.int .i64) hww | (simp [hww]), by omega, Ints.kept HI.out (k2.alloc _), Kept.trans HK.out (k2.alloc _)⟩
      case measure => simp [intOf]; omega
    · obtain rfl : k = n := by omega
      have q1 : ¬ (k : Int) < (k : Int) := by omega
      have HE : Hid (L.take k = L) := by rw [Hid]; exact List.take_of_length_le (by rw [HN.out]; exact Nat.le_refl _)
      go_wp2_with fail
      go_ret
      exact ⟨by rw [HE.out]; rfl, Kept.trans HK0.out HK.out⟩
end Go.Proofs.YtgempjjnfpmndaaGreatDoor
