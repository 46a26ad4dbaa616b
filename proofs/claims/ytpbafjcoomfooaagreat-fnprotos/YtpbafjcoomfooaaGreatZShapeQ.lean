/-
  The contracts of chapter 3's models HeapOk and RootsOk, and of the program's RootsOk.
-/
import Derived.Test.YtpbafjcoomfooaaGreatGrpN
import Derived.Test.YtpbafjcoomfooaaGreatSlabR
namespace Go.Proofs.YtpbafjcoomfooaaGreat
open Go.RowKit
attribute [local go_sem] Plain.and7

theorem allB_take {zs : List Int} {k : Nat} (hk : k < (blocks zs).length) (h : allB zs ((blocks zs).take k) = true) : allB zs ((blocks zs).take (k + 1)) = blkR zs (blocks zs)[k].1.at' (blocks zs)[k].1.size (blocks zs)[k].1.kind := by
  rw [List.take_succ_eq_append_getElem hk, allB_snoc, h, Bool.true_and]

set_option maxHeartbeats 4000000 in
set_option maxRecDepth 100000 in
theorem spec_HeapOk_ok (w : World) (ao : Option Addr) (cap : Nat) (zs : List Int) (hI : Ints w ao zs) (hl : zs.length ≤ 1048576) :
    Calls Tryz.prog 39 #[.agg #[.slice ao zs.length cap]] w fun e w' => e = .returned (.bool (heapR zs)) ∧ Kept w w' := by
  have hL : zs.length * 8 ≤ 140737488351232 := by omega
  have b0 := Cells.new w 26 #[.slice ao zs.length cap]
  have k0 : Kept w (w.alloc (.cells #[.slice ao zs.length cap] 26)) := Kept.alloc (Below.refl _ _) _
  have hB := spec_Blocks_ok _ ao cap zs (hI.kept k0) hL
  have hS := fun (u : World) (hu : Kept w u) => spec_SlabOk_ok u ao cap zs (hI.kept hu) hL
  cases hok : slabOk zs with
  | false =>
    have HR : Hid (heapR zs = false) := by simp [Hid, heapR, hok]
    have hP : places zs = [] := by simp [places, hok]
    simp only [hok] at hS
    rw [hP] at hB
    clear hok hP hI
    go_enter Tryz.func39, Tryz.ntmps39
    go_wp2_with fail
    refine hB.mono ?_
    rintro e w1 ⟨v, rfl, ho, hk1⟩
    obtain ⟨la, lc, rfl, _⟩ := ho.ints
    have b1 := b0.kept hk1
    have c1 := b1.cell 0
    have k1 := k0.trans hk1
    clear ho hB
    simp only [List.length_nil]
    go_wp2_with fail
    go_loopw [4] (fun i wr => wr = w1 ∧ i = .int .i64 0) (fun _ _ => 0)
    case atStart => exact ⟨by first | rfl | trivial, rfl⟩
    case round =>
      obtain ⟨rfl, rfl⟩ := hrel
      go_wp2_with (go_at_call 86; refine (hS _ k1).mono ?_; rintro e w2 ⟨rfl, hk2⟩)
      go_ret
      exact ⟨by rw [HR.out]; rfl, k1.trans hk2⟩
  | true =>
    have HR : Hid (heapR zs = allB zs (blocks zs)) := by simp [Hid, heapR, hok]
    have hP : places zs = atsOf (blocks zs) := by simp [places, hok, atsOf]
    simp only [hok] at hS
    rw [hP] at hB
    have hlen : (atsOf (blocks zs)).length = (blocks zs).length := atsOf_len _
    have hcount := blocks_count zs
    have hat : ∀ k (hk : k < (blocks zs).length), hz (atsOf (blocks zs)) k = (((blocks zs)[k].1.at' : Nat) : Int) := fun k hk => by simp [hz, atsOf, hk]
    have hSh : ∀ k (hk : k < (blocks zs).length) (u : World), Kept w u → Calls Tryz.prog 85 #[.agg #[.slice ao zs.length cap], .int .i64 (((blocks zs)[k].1.at' : Nat) : Int)] u fun e w' => e = .returned (.bool (blkR zs (blocks zs)[k].1.at' (blocks zs)[k].1.size (blocks zs)[k].1.kind)) ∧ Kept u w' := fun k hk u hu => by
      have hm := blks_mem zs 0 (blocks zs)[k] (List.getElem_mem hk)
      exact l3Shape_ok u ao cap zs _ (hI.kept hu) hl hok hm.1 hm.2.1 hm.2.2
    have HSh : Hid _ := hSh
    have HAt : Hid _ := hat
    have HS : Hid _ := hS
    clear hok hP hI hSh hat hS
    go_enter Tryz.func39, Tryz.ntmps39
    go_wp2_with fail
    refine hB.mono ?_
    rintro e w1 ⟨v, rfl, ho, hk1⟩
    obtain ⟨la, lc, rfl, hi1⟩ := ho.ints
    rw [hlen]
    have b1 := b0.kept hk1
    have k1 := k0.trans hk1
    clear ho hB b0 k0 hk1
    obtain ⟨n, hn⟩ : ∃ n, (blocks zs).length = n := ⟨_, rfl⟩
    rw [hn]
    go_wp2_with fail
    go_loopw [4] (fun i wr => ∃ k : Nat, i = .int .i64 k ∧ k ≤ n ∧ allB zs ((blocks zs).take k) = true ∧ Kept w1 wr) (fun i _ => n - (intOf i).toNat)
    case atStart => exact ⟨0, rfl, Nat.zero_le _, rfl, Below.refl _ _⟩
    case round =>
      obtain ⟨k, rfl, hk, hok, hK⟩ := hrel
      by_cases hlt : k < n
      · have hkb : k < (blocks zs).length := by omega
        obtain ⟨ba, hba⟩ : ∃ ba, (((blocks zs)[k].1.at' : Nat) : Int) = ba := ⟨_, rfl⟩
        obtain ⟨bv, hbv⟩ : ∃ bv, blkR zs (blocks zs)[k].1.at' (blocks zs)[k].1.size (blocks zs)[k].1.kind = bv := ⟨_, rfl⟩
        have HN : Hid (allB zs ((blocks zs).take (k + 1)) = bv) := by show _ = _; rw [allB_take hkb hok, hbv]
        have hC : Hid (∀ u, Kept wr.drew u → Calls Tryz.prog 85 #[.agg #[.slice ao zs.length cap], .int .i64 ba] u fun e w' => e = .returned (.bool bv) ∧ Kept u w') := fun u hu => by
          have := HSh.out k hkb u (k1.trans (hK.trans (Kept.trans ((Below.refl _ wr).drew) hu)))
          rw [hba, hbv] at this
          exact this
        obtain ⟨bb, off, rfl, hc⟩ := hi1.at (k := k) (by rw [hlen]; exact hkb)
        have hck := hc k (by rw [hlen]; exact hkb)
        rw [HAt.out k hkb, hba] at hck
        have hbl : bb < w1.heap.size := World.block_lt_of_cell? _ _ hck
        have x0 : ∀ u, Kept wr.drew u → u.cell? ⟨w.heap.size, 0, none⟩ = some (.slice ao zs.length cap) := fun u hu => ((b1.kept hK).kept (Kept.trans ((Below.refl _ wr).drew) hu)).cell 0
        have y1 : ∀ u, Kept wr.drew u → u.cell? ⟨bb, off + k, none⟩ = some (.int .i64 ba) := fun u hu => ((hK.trans (Kept.trans ((Below.refl _ wr).drew) hu)).cell (p := ⟨bb, off + k, none⟩) hbl).trans hck
        have q1 : (k : Int) < (n : Int) := by omega
        have HK : Hid (Kept w1 wr) := hK
        have HX : Hid (Kept w w1) := k1
        clear hc hck hba hbv hok hi1 hK k1 b1
        go_wp2_with fail
        refine wp_region_seqL (by kernel_rfl) (by kernel_rfl) ?_
        repeat (first
          | (refine SeqL.pure ?_ (by rfl) ?_ ?_; rotate_left; (focus (intro u hu; have x0' := x0 u hu; have y1' := y1 u hu; go_simp; first | done | exact rfl)); simp only [Act.put, List.setIfInBounds_toArray, List.set_cons_zero, List.set_cons_succ])
          | (refine SeqL.call _ _ _ (by rfl) ?_ hC.out ?_; (focus (intro u; go_simp; done)); simp only [Act.put, List.setIfInBounds_toArray, List.set_cons_zero, List.set_cons_succ]))
        refine SeqL.nil ?_
        intro u hu
        have kd := Kept.trans ((Below.refl _ wr).drew) hu
        have hK' := HK.out.trans kd
        clear x0 y1 hC
        cases bv with
        | true =>
          go_wp2_with fail
          go_roundw
          case rel => exact ⟨k + 1, by go_num, by omega, HN.out, hK'⟩
          case measure => simp [intOf]; omega
        | false =>
          have HF : Hid (allB zs (blocks zs) = false) := allB_pre (List.take_prefix _ _) HN.out
          go_wp2
          go_ret
          exact ⟨by rw [HR.out, HF.out]; rfl, HX.out.trans hK'⟩
      · have HF : Hid (allB zs (blocks zs) = true) := by
          show _ = _
          rw [show k = (blocks zs).length by omega, List.take_length] at hok
          exact hok
        have c1 := (b1.kept hK).cell 0
        have hS1 := HS.out wr (k1.trans hK)
        have HK : Hid (Kept w wr) := k1.trans hK
        clear hok hi1 hK k1 b1
        go_wp2_with (go_at_call 86; refine hS1.mono ?_; rintro e w2 ⟨rfl, hk2⟩)
        go_ret
        exact ⟨by rw [HR.out, HF.out]; rfl, HK.out.trans hk2⟩

/-- The heap is right, and each of some values leads to a block of its kind. -/
def leadAll (zs rs : List Int) (k : Nat) : Bool := allR (fun i => leadsR zs (hz rs i) 5) k
def rootsR (zs rs : List Int) : Bool := heapR zs && leadAll zs rs rs.length
theorem heapR_slab {zs : List Int} (h : heapR zs = true) : slabOk zs = true := by
  unfold heapR at h; rw [Bool.and_eq_true] at h; exact h.1

set_option maxHeartbeats 4000000 in
set_option maxRecDepth 100000 in
theorem spec_RootsOk_ok (w : World) (ao ro : Option Addr) (cap rc : Nat) (zs rs : List Int) (hI : Ints w ao zs) (hl : zs.length ≤ 1048576) (hR : Ints w ro rs) (hrl : rs.length ≤ 1048576) :
    Calls Tryz.prog 71 #[.agg #[.slice ao zs.length cap], .slice ro rs.length rc] w fun e w' => e = .returned (.bool (rootsR zs rs)) ∧ Kept w w' := by
  have b0 := Cells.new w 26 #[.slice ao zs.length cap]
  have k0 : Kept w (w.alloc (.cells #[.slice ao zs.length cap] 26)) := Kept.alloc (Below.refl _ _) _
  have hH := spec_HeapOk_ok _ ao cap zs (hI.kept k0) hl
  cases hh : heapR zs with
  | false =>
    have HR : Hid (rootsR zs rs = false) := by simp [Hid, rootsR, hh]
    rw [hh] at hH
    clear hh hI hR
    go_enter Tryz.func71, Tryz.ntmps71
    go_wp2_with (go_at_call 39; refine hH.mono ?_; rintro e w1 ⟨rfl, hk1⟩)
    go_ret
    exact ⟨by rw [HR.out]; rfl, k0.trans hk1⟩
  | true =>
    have HR : Hid (rootsR zs rs = leadAll zs rs rs.length) := by simp [Hid, rootsR, hh]
    have hok := heapR_slab hh
    rw [hh] at hH
    have HC : Hid (∀ k (u : World), Kept w u → Calls Tryz.prog 51 #[.agg #[.slice ao zs.length cap], .int .i64 (hz rs k), .int .i64 5] u fun e w' => e = .returned (.bool (leadsR zs (hz rs k) 5)) ∧ Kept u w') := fun k u hu => l3Leads_ok u ao cap zs _ 5 (hI.kept hu) hl hok (hR.bd k).1 (hR.bd k).2 (by omega)
    clear hh hI hok
    go_enter Tryz.func71, Tryz.ntmps71
    go_wp2_with (go_at_call 39; refine hH.mono ?_; rintro e w1 ⟨rfl, hk1⟩)
    have b1 := b0.kept hk1
    have k1 := k0.trans hk1
    clear hH b0 k0 hk1
    go_loopw [5] (fun i wr => ∃ k : Nat, i = .int .i64 k ∧ k ≤ rs.length ∧ leadAll zs rs k = true ∧ Kept w1 wr) (fun i _ => rs.length - (intOf i).toNat)
    case atStart => exact ⟨0, rfl, Nat.zero_le _, allR_zero _, Below.refl _ _⟩
    case round =>
      obtain ⟨k, rfl, hk, hok, hK⟩ := hrel
      by_cases hlt : k < rs.length
      · obtain ⟨bv, hbv⟩ : ∃ bv, leadsR zs (hz rs k) 5 = bv := ⟨_, rfl⟩
        have HN : Hid (leadAll zs rs (k + 1) = bv) := by
          show _ = _
          unfold leadAll at hok ⊢
          rw [allR_succ, hok, Bool.true_and, hbv]
        have hC : Hid (∀ u, Kept wr.drew u → Calls Tryz.prog 51 #[.agg #[.slice ao zs.length cap], .int .i64 (hz rs k), .int .i64 5] u fun e w' => e = .returned (.bool bv) ∧ Kept u w') := fun u hu => by
          have := HC.out k u (k1.trans (hK.trans (Kept.trans ((Below.refl _ wr).drew) hu)))
          rw [hbv] at this
          exact this
        obtain ⟨bb, off, rfl, hc⟩ := hR.at (k := k) hlt
        have hck := hc k hlt
        have hbl : bb < w.heap.size := World.block_lt_of_cell? _ _ hck
        have x0 : ∀ u, Kept wr.drew u → u.cell? ⟨w.heap.size, 0, none⟩ = some (.slice ao zs.length cap) := fun u hu => ((b1.kept hK).kept (Kept.trans ((Below.refl _ wr).drew) hu)).cell 0
        have y1 : ∀ u, Kept wr.drew u → u.cell? ⟨bb, off + k, none⟩ = some (.int .i64 (hz rs k)) := fun u hu => ((k1.trans (hK.trans (Kept.trans ((Below.refl _ wr).drew) hu))).cell (p := ⟨bb, off + k, none⟩) hbl).trans hck
        have q1 : (k : Int) < (rs.length : Int) := by omega
        have HK : Hid (Kept w1 wr) := hK
        have HX : Hid (Kept w w1) := k1
        clear hc hck hbv hok hR hK k1 b1
        go_wp2_with fail
        refine wp_region_seqL (by kernel_rfl) (by kernel_rfl) ?_
        repeat (first
          | (refine SeqL.pure ?_ (by rfl) ?_ ?_; rotate_left; (focus (intro u hu; have x0' := x0 u hu; have y1' := y1 u hu; go_simp; first | done | exact rfl)); simp only [Act.put, List.setIfInBounds_toArray, List.set_cons_zero, List.set_cons_succ])
          | (refine SeqL.call _ _ _ (by rfl) ?_ hC.out ?_; (focus (intro u; go_simp; done)); simp only [Act.put, List.setIfInBounds_toArray, List.set_cons_zero, List.set_cons_succ]))
        refine SeqL.nil ?_
        intro u hu
        have kd := Kept.trans ((Below.refl _ wr).drew) hu
        have hK' := HK.out.trans kd
        clear x0 y1 hC
        cases bv with
        | true =>
          go_wp2_with fail
          go_roundw
          case rel => exact ⟨k + 1, by go_num, by omega, HN.out, hK'⟩
          case measure => simp [intOf]; omega
        | false =>
          have HF : Hid (leadAll zs rs rs.length = false) := allR_false (k := k + 1) (by omega) HN.out
          go_wp2
          go_ret
          exact ⟨by rw [HR.out, HF.out]; rfl, HX.out.trans hK'⟩
      · have HF : Hid (leadAll zs rs rs.length = true) := by
          show _ = _
          rw [show rs.length = k by omega]
          exact hok
        have HK : Hid (Kept w wr) := k1.trans hK
        clear hok hR hK k1 b1
        go_wp2
        go_ret
        exact ⟨by rw [HR.out, HF.out]; rfl, HK.out⟩
end Go.Proofs.YtpbafjcoomfooaaGreat
