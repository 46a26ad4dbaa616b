/-
  The contracts of spec.l10To and spec.l10Moved.
-/
import Derived.Test.YthloammkgogceaaSldP
import Derived.Test.YthloammkgogceaaSlabS
import Derived.Test.YthloammkgogceaaVal
import Derived.Test.YthloammkgogceaaSeq
namespace Go.Proofs.Ythloammkgogceaa
open Go.RowKit
attribute [local go_sem] Plain.and7

set_option maxHeartbeats 4000000 in
set_option maxRecDepth 100000 in
theorem l10To_ok (w : World) (ao : Option Addr) (cap : Nat) (zs : List Int) (a : Nat) (hI : Ints w ao zs) (hok : slabOk zs = true) (ha : a ≤ zs.length) :
    Calls Try.prog 56 #[.agg #[.slice ao zs.length cap], .int .i64 (a : Nat)] w fun e w' => e = .returned (.int .i64 (movT zs a : Nat)) ∧ Kept w w' := by
  have hlen := slabOk_len hok
  have b0 := Cells.new w 27 #[.slice ao zs.length cap]
  have k0 : Kept w (w.alloc (.cells #[.slice ao zs.length cap] 27)) := Kept.alloc (Below.refl _ _) _
  have HB0 : Hid _ := Bnd.zero hok
  have HI : Hid _ := hI.kept k0
  clear hI hok
  have c0 := b0.cell 0
  go_enter Try.func56, Try.ntmps56
  go_wp2_with fail
  go_loopw [5, 6] (fun t v wr => ∃ k n s : Nat, v = .int .i64 k ∧ t = .int .i64 s ∧ Hid (Bnd zs k ∧ movT zs a = movF zs a n k s ∧ zs.length < n + k) ∧ s ≤ k ∧ k ≤ zs.length ∧ wr = w.alloc (.cells #[.slice ao zs.length cap] 27)) (fun _ v _ => zs.length + 1 - (intOf v).toNat)
  case atStart => exact ⟨0, zs.length + 1, 0, rfl, rfl, ⟨HB0.out, rfl, by omega⟩, Nat.le_refl _, Nat.zero_le _, rfl⟩
  case round =>
    obtain ⟨k, n, s, rfl, rfl, HR, hsk, hk, rfl⟩ := hrel
    by_cases hlt : k < a
    · obtain ⟨hg, hb⟩ := HR.out.1.good (by omega)
      have hgl := hg.lt
      have hszI := hg.szI
      have hle := hg.le
      have hs2 := hg.sz2
      have hkdI := kdI zs k
      obtain ⟨bb, off, rfl, hc⟩ := Ints.at HI.out hgl
      have hck := hc _ hgl
      have HB : Hid (Bnd zs (k + sz zs k)) := hb
      have HN : Hid (movT zs a = movF zs a (n - 1) (k + sz zs k) (if kd zs k ≠ 0 then s + sz zs k else s)) := by
        have hn : n = (n - 1) + 1 := by have := HR.out.2.2; omega
        rw [Hid, HR.out.2.1, hn, movF_on hlt]
        rfl
      have HNL : Hid (zs.length < n + k) := HR.out.2.2
      have hq1 : (k : Int) < (a : Int) := by omega
      have hq2 : (k : Int) < (zs.length : Int) := by omega
      have hq3 : (0 : Int) ≤ (k : Int) := by omega
      have HS : Hid ((sz zs k : Int) = hz zs k / 8) := hszI
      have HQ : Hid ((kd zs k : Int) = hz zs k % 8) := hkdI
      have hsb : (k : Int) + hz zs k / 8 ≤ 4000 := by omega
      have hsb0 : 0 ≤ hz zs k / 8 := by omega
      clear hc hg hb hszI hlt hkdI
      by_cases hz8 : hz zs k % 8 = 0
      · have hd : (hz zs k % 8 != 0) = false := by simp [hz8]
        have HZ : Hid (kd zs k = 0) := by have := HQ.out; rw [Hid]; omega
        clear hz8
        go_wp2_with (first | (go_at_call 31; refine (l2Size_ok _ _).mono ?_; rintro e wx ⟨rfl, rfl⟩) | (go_at_call 30; refine (l2Kind_ok _ _).mono ?_; rintro e wx ⟨rfl, rfl⟩))
        go_roundw
        case rel => exact ⟨k + sz zs k, n - 1, s, by have := HS.out; go_num, rfl, ⟨HB.out, by rw [HN.out, if_neg (by rw [HZ.out]; simp)], by have := HNL.out; omega⟩, by omega, hle, by first | trivial | rfl⟩
        case measure => have := HS.out; simp [intOf]; omega
      · have hd : (hz zs k % 8 != 0) = true := by simpa using hz8
        have HZ : Hid (kd zs k ≠ 0) := by have := HQ.out; rw [Hid]; omega
        clear hz8
        go_wp2_with (first | (go_at_call 31; refine (l2Size_ok _ _).mono ?_; rintro e wx ⟨rfl, rfl⟩) | (go_at_call 30; refine (l2Kind_ok _ _).mono ?_; rintro e wx ⟨rfl, rfl⟩))
        go_roundw
        case rel => exact ⟨k + sz zs k, n - 1, s + sz zs k, by have := HS.out; go_num, by have := HS.out; go_num, ⟨HB.out, by rw [HN.out, if_pos HZ.out], by have := HNL.out; omega⟩, by omega, hle, by first | trivial | rfl⟩
        case measure => have := HS.out; simp [intOf]; omega
    · have HE : Hid (movT zs a = s) := by rw [Hid, HR.out.2.1, movF_end hlt]
      have hq1 : (a : Int) ≤ (k : Int) := by omega
      clear hlt
      go_wp2_with fail
      go_ret
      exact ⟨by rw [HE.out]; rfl, k0⟩
set_option maxHeartbeats 4000000 in
set_option maxRecDepth 100000 in
theorem l10Moved_ok (w : World) (ao : Option Addr) (cap : Nat) (zs : List Int) (v : Int) (hI : Ints w ao zs) (hok : slabOk zs = true) (hp : ¬ v % 8 < 4 → 0 ≤ v / 8 ∧ v / 8 ≤ (zs.length : Int)) :
    Calls Try.prog 37 #[.agg #[.slice ao zs.length cap], .int .i64 v] w fun e w' => e = .returned (.int .i64 (movV zs v)) ∧ Kept w w' := by
  have hlen := slabOk_len hok
  have b0 := Cells.new w 27 #[.slice ao zs.length cap]
  have k0 : Kept w (w.alloc (.cells #[.slice ao zs.length cap] 27)) := Kept.alloc (Below.refl _ _) _
  have hKd := fun (u : World) => spec_Kind_ok v u
  have hNm := fun (u : World) => spec_Num_ok v u
  by_cases h4 : v % 8 < 4
  · have HV : Hid (movV zs v = v) := if_pos h4
    go_enter Try.func37, Try.ntmps37
    go_wp2_with (first | (go_at_call 48; refine (hKd _).mono ?_; rintro e wx ⟨rfl, rfl⟩))
    go_ret
    exact ⟨by rw [HV.out]; rfl, k0⟩
  · obtain ⟨h0, h1⟩ := hp h4
    obtain ⟨a, ha⟩ : ∃ a : Nat, v / 8 = a := ⟨(v / 8).toNat, by omega⟩
    have HV : Hid (movV zs v = 8 * (movT zs a : Nat) + v % 8) := by
      rw [Hid]
      unfold movV
      rw [if_neg h4, ha, Int.toNat_natCast]
    have hmt := movT_le (a := a) hok (by omega)
    have C2 : Hid (∀ u, Kept (w.alloc (.cells #[.slice ao zs.length cap] 27)).drew u → Calls Try.prog 56 #[.agg #[.slice ao zs.length cap], .int .i64 (a : Nat)] u fun e w' => e = .returned (.int .i64 (movT zs a : Nat)) ∧ Kept u w') := fun u hu => l10To_ok u ao cap zs a ((hI.kept k0).kept (Kept.trans (Below.refl _ _).drew hu)) hok (by omega)
    have C1 : Hid (∀ u, Kept (w.alloc (.cells #[.slice ao zs.length cap] 27)).drew u → Calls Try.prog 47 #[.int .i64 v] u fun e w' => e = .returned (.int .i64 (a : Nat)) ∧ Kept u w') := fun u _ => by
      have := calls_kept (hNm u)
      rwa [ha] at this
    have C3 : Hid (∀ u, Kept (w.alloc (.cells #[.slice ao zs.length cap] 27)).drew u → Calls Try.prog 48 #[.int .i64 v] u fun e w' => e = .returned (.int .i64 (v % 8)) ∧ Kept u w') := fun u _ => calls_kept (hKd u)
    have y0 : ∀ u, Kept (w.alloc (.cells #[.slice ao zs.length cap] 27)).drew u → u.cell? ⟨w.heap.size, 0, none⟩ = some (.slice ao zs.length cap) := fun u hu => (b0.kept (Kept.trans (Below.refl _ _).drew hu)).cell 0
    obtain ⟨mt, hmt'⟩ : ∃ mt, movT zs a = mt := ⟨_, rfl⟩
    rw [hmt'] at HV C2 hmt
    have hw1 : IntKind.i64.wrap (8 * (mt : Int)) = 8 * (mt : Int) := by rw [IntWalk.i64_left, IntWalk.wrap64_in _ (by omega)]
    have hw2 : IntKind.i64.wrap (8 * (mt : Int) + v % 8) = 8 * (mt : Int) + v % 8 := by rw [IntWalk.i64_left, IntWalk.wrap64_in _ (by omega)]
    clear h0 h1 ha hNm hmt' hI hok hp
    go_enter Try.func37, Try.ntmps37
    go_wp2_with (first | (go_at_call 48; refine (hKd _).mono ?_; rintro e wx ⟨rfl, rfl⟩))
    refine wp_region_seqL (by kernel_rfl) (by kernel_rfl) ?_
    repeat (first
      | (refine SeqL.skip (by rfl) ?_; simp only [Act.put, List.setIfInBounds_toArray, List.set_cons_zero, List.set_cons_succ])
      | (refine SeqL.pure ?_ (by rfl) ?_ ?_; rotate_left; (focus (intro u hu; have y0' := y0 u hu; go_simp; first | done | exact rfl)); simp only [Act.put, List.setIfInBounds_toArray, List.set_cons_zero, List.set_cons_succ])
      | (refine SeqL.call _ _ _ (by rfl) ?_ C1.out ?_; (focus (intro u; go_simp; done)); simp only [Act.put, List.setIfInBounds_toArray, List.set_cons_zero, List.set_cons_succ])
      | (refine SeqL.call _ _ _ (by rfl) ?_ C2.out ?_; (focus (intro u; go_simp; done)); simp only [Act.put, List.setIfInBounds_toArray, List.set_cons_zero, List.set_cons_succ])
      | (refine SeqL.call _ _ _ (by rfl) ?_ C3.out ?_; (focus (intro u; go_simp; done)); simp only [Act.put, List.setIfInBounds_toArray, List.set_cons_zero, List.set_cons_succ]))
    refine SeqL.nil ?_
    intro w5 hu5
    go_wp2_with fail
    go_ret
    exact ⟨by rw [HV.out]; rfl, Kept.trans k0 (Kept.trans (Below.refl _ _).drew hu5)⟩
end Go.Proofs.Ythloammkgogceaa
