/-
  The contract of spec.Forward.
-/
import Derived.Test.YthloammkgogceaaFwdB
import Derived.Test.YthloammkgogceaaKepB
import Derived.Test.YthloammkgogceaaRchA
import Derived.Deep.AppendLies
namespace Go.Proofs.Ythloammkgogceaa
open Go.RowKit
attribute [local go_sem] Plain.and7

theorem Keeps.on2 {c : Nat} {w a b : World} {row : Option Nat} (h : Keeps c w a) (hg : a.grownBy b row) (hr : ∀ k, row = some k → k = c ∨ w.heap.size ≤ k) : Keeps c w b :=
  ⟨hg.os.trans h.os, hg.tape.trans h.tape, hg.output.trans h.output, Nat.le_trans h.size hg.size, fun k hk hc => (hg.block k (Nat.lt_of_lt_of_le hk h.size) (fun e => by have := hr k e.symm; omega)).trans (h.block k hk hc)⟩
/-- What Forward has told behind so many blocks. -/
def fwF (zs : List Int) (k : Nat) : List Int := (tkL ((blocks zs).take k)).map (fun b => ((movT zs b.1.at' : Nat) : Int))
theorem tk_next {zs : List Int} {k : Nat} (hk : k < (blocks zs).length) : (blocks zs).take (k + 1) = (blocks zs).take k ++ [(blocks zs)[k]] := List.take_succ_eq_append_getElem hk
theorem fwF_next {zs : List Int} {k : Nat} (hk : k < (blocks zs).length) : fwF zs (k + 1) = fwF zs k ++ (if (blocks zs)[k].1.kind = 0 then [] else [((szsB (tkL ((blocks zs).take k)) : Nat) : Int)]) ∧ szsB (tkL ((blocks zs).take (k + 1))) = szsB (tkL ((blocks zs).take k)) + (if (blocks zs)[k].1.kind = 0 then 0 else (blocks zs)[k].1.size) := by
  have hm : movT zs (blocks zs)[k].1.at' = szsB (tkL ((blocks zs).take k)) := movT_blks (r := (blocks zs).drop (k + 1)) (by
    rw [← List.drop_eq_getElem_cons hk, List.take_append_drop])
  unfold fwF
  rw [tk_next hk, tkL_app, List.map_append, szsB_app]
  by_cases h : (blocks zs)[k].1.kind = 0
  · rw [tkL_no h, if_pos h, if_pos h]
    exact ⟨by simp, by simp [szsB]⟩
  · rw [tkL_yes h, if_neg h, if_neg h]
    exact ⟨by simp [hm], by simp [szsB]⟩
theorem szs_take {zs : List Int} (k : Nat) : szsB (tkL ((blocks zs).take k)) ≤ zs.length := szs_le ⟨tkL ((blocks zs).drop k), by rw [← tkL_app, List.take_append_drop]⟩
theorem fwF_len (zs : List Int) (k : Nat) : (fwF zs k).length ≤ k := by
  unfold fwF tkL
  rw [List.length_map]
  have h1 := List.length_filter_le (fun b : BkOf zs.length => !decide (b.1.kind = 0)) ((blocks zs).take k)
  have h2 := List.length_take_le k (blocks zs)
  omega
set_option maxHeartbeats 16000000 in
set_option maxRecDepth 100000 in
theorem spec_Forward_ok (w : World) (ao : Option Addr) (cap : Nat) (zs : List Int) (hI : Ints w ao zs) (hl : zs.length ≤ 1048576) :
    Calls Try.prog 14 #[.agg #[.slice ao zs.length cap]] w fun e w' => ∃ v, e = .returned v ∧ OwnL w' w.heap.size v (fwdL zs) ∧ Kept w w' := by
  obtain ⟨i0, hi, hz0, hz1, hz2⟩ := info_parts infoI
  have hL : zs.length * 8 ≤ 140737488351232 := by omega
  have b0 := (Cells.new w 27 #[.slice ao zs.length cap]).alloc (.cells #[] 3)
  have k0 : Kept w ((w.alloc (.cells #[.slice ao zs.length cap] 27)).alloc (.cells #[] 3)) := (Kept.alloc (Below.refl _ _) _).alloc _
  have o0 : OwnL ((w.alloc (.cells #[.slice ao zs.length cap] 27)).alloc (.cells #[] 3)) w.heap.size (.slice (some ⟨w.heap.size + 1, 0, none⟩) 0 0) [] := by
    have := World.ownsRow_made (base := w.heap.size) (e := 3) (size := 1) (w.alloc (.cells #[.slice ao zs.length cap] 27)) #[] 0 (by simp) (by unfold maxLen; omega) (by simp)
    exact ⟨by simp, by simpa using this⟩
  have hB := spec_Blocks_ok _ ao cap zs (hI.kept k0) hL
  have HH : Hid _ := fun (u : World) (hu : Kept w u) => spec_HeapOk_ok u ao cap zs (hI.kept hu) hl
  have hc0 := b0.cell 0
  cases hh : heapR zs with
  | false =>
    have HE : Hid (fwdL zs = []) := by simp [Hid, fwdL, hh]
    rw [hh] at HH
    obtain ⟨pl, hpl⟩ : ∃ pl, places zs = pl := ⟨_, rfl⟩
    rw [hpl] at hB
    clear hh hpl hI
    go_enter Try.func14, Try.ntmps14
    go_wp2_with fail
    refine hB.mono ?_
    rintro e w1 ⟨v, rfl, ho, hk1⟩
    obtain ⟨la, lc, rfl, _⟩ := ho.ints
    have b1 := b0.kept hk1
    have c1 := b1.cell 0
    have k1 := k0.trans hk1
    have o1 := o0.kept (row := none) hk1.grown (fun _ e => by cases e)
    clear ho hB o0 hc0
    go_wp2_with fail
    go_loopw [3, 6] (fun v i wr => wr = w1 ∧ v = .slice (some ⟨w.heap.size + 1, 0, none⟩) 0 0 ∧ i = .int .i64 0) (fun _ _ _ => 0)
    case atStart => exact ⟨by first | rfl | trivial, rfl, rfl⟩
    case round =>
      obtain ⟨rfl, rfl, rfl⟩ := hrel
      by_cases hp : 0 < pl.length
      · have hp' : (0 : Int) < (pl.length : Int) := by omega
        go_wp2_with (go_at_call 25; refine (HH.out _ k1).mono ?_; rintro e w2 ⟨rfl, hk2⟩)
        go_ret
        refine ⟨_, rfl, ?_, k1.trans hk2⟩
        rw [HE.out]
        exact o1.kept (row := none) hk2.grown (fun _ e => by cases e)
      · have hp' : ¬ (0 : Int) < (pl.length : Int) := by omega
        go_wp2
        go_ret
        refine ⟨_, rfl, ?_, k1⟩
        rw [HE.out]
        exact o1
  | true =>
    have hok := heapR_slab hh
    have HE : Hid (fwdL zs = fwF zs (blocks zs).length) := by simp [Hid, fwdL, hh, fwF]
    rw [hh] at HH
    have hP : places zs = atsOf (blocks zs) := by simp [places, hok, atsOf]
    rw [hP] at hB
    have hal : (atsOf (blocks zs)).length = (blocks zs).length := by simp [atsOf]
    have hcount := blocks_count zs
    have hlen := slabOk_len hok
    have HAL : Hid _ := hal
    have HI : Hid (∀ u, Kept w u → Ints u ao zs) := fun u hu => hI.kept hu
    clear hh hP hI hok hal
    go_enter Try.func14, Try.ntmps14
    go_wp2_with fail
    refine hB.mono ?_
    rintro e w2 ⟨v, rfl, ho, hk1⟩
    obtain ⟨la, lc, rfl, _⟩ := ho.ints
    rw [HAL.out]
    have b2 := b0.kept hk1
    have k2 := k0.trans hk1
    have o2 := o0.kept (row := none) hk1.grown (fun _ e => by cases e)
    have hs2 := hk1.size
    simp only [World.size_alloc] at hs2 ho
    have HP : Hid (OwnL w2 (w.heap.size + 1 + 1) (.slice la (atsOf (blocks zs)).length lc) (atsOf (blocks zs))) := ho
    have HO2 : Hid _ := o2
    have HK2 : Hid (Kept w w2) := k2
    clear hB o0 o2 hk1 hc0 k0 b0 k2 ho
    go_wp2_with fail
    go_loopw [3, 4, 6] (fun ov tv iv wr => ∃ (k : Nat), iv = .int .i64 k ∧ k ≤ (blocks zs).length ∧ tv = .int .i64 (szsB (tkL ((blocks zs).take k)) : Nat) ∧ Hid (OwnL wr w.heap.size ov (fwF zs k)) ∧ Hid (∀ j, ov.ownBlock = some j → j = w.heap.size + 1 ∨ w2.heap.size ≤ j) ∧ Hid (Keeps (w.heap.size + 1) w2 wr)) (fun _ _ i _ => (blocks zs).length - (intOf i).toNat)
    case atStart => exact ⟨0, rfl, Nat.zero_le _, by simp [tkL, szsB], by rw [show fwF zs 0 = [] from by simp [fwF, tkL]]; exact HO2.out, fun j e => by simp [Value.ownBlock] at e; omega, Keeps.refl _ _⟩
    case round =>
      obtain ⟨k, rfl, hk, rfl, HO, HA, HK⟩ := hrel
      clear HO2
      have KW : Kept w wr := Below.trans HK2.out (HK.out.below (by omega) HK2.out.size)
      have y2 := b2.keeps HK.out (by omega)
      have cy := y2.cell 0
      by_cases hlt : k < (blocks zs).length
      · have hlt' : (k : Int) < ((blocks zs).length : Int) := by omega
        have hH := HH.out wr KW
        go_wp2_with (go_at_call 25; refine hH.mono ?_; rintro e w3 ⟨rfl, hk3⟩)
        have hm := blks_mem zs 0 _ (List.getElem_mem (l := blocks zs) hlt)
        have hfn := fwF_next hlt
        have hpj : hz (atsOf (blocks zs)) k = (((blocks zs)[k]).1.at' : Nat) := by simp [hz, atsOf, hlt]
        obtain ⟨a0, ha0⟩ : ∃ a0, ((blocks zs)[k]).1.at' = a0 := ⟨_, rfl⟩
        rw [hm.2.1, hm.2.2, ha0] at hfn
        rw [ha0] at hm hpj
        obtain ⟨hgd, _, _⟩ := hm
        have hgl := hgd.lt
        have hszI := hgd.szI
        have hkdI := kdI zs a0
        have hle := hgd.le
        have kd3 : Kept w3 w3.drew := (Below.refl _ w3).drew
        have HB : Hid (∀ u, Keeps (w.heap.size + 1) w2 u → u.cell? ⟨w.heap.size, 0, none⟩ = some (.slice ao zs.length cap) ∧ (∃ pb po, la = some ⟨pb, po, none⟩ ∧ u.cell? ⟨pb, po + k, none⟩ = some (.int .i64 (a0 : Nat))) ∧ ∃ bb off, ao = some ⟨bb, off, none⟩ ∧ u.cell? ⟨bb, off + a0, none⟩ = some (.int .i64 (hz zs a0))) := fun u hu => by
          have hPA := HP.out.turned hu (by omega)
          obtain ⟨_, _, ePA, hPI⟩ := hPA.ints
          cases ePA
          obtain ⟨pb, po, e1, hpc⟩ := hPI.at (k := k) (by rw [HAL.out]; exact hlt)
          obtain ⟨bb, off, e2, hc⟩ := (HI.out u (Below.trans HK2.out (hu.below (by omega) HK2.out.size))).at hgl
          have h1 := hpc k (by rw [HAL.out]; exact hlt)
          rw [hpj] at h1
          exact ⟨(b2.keeps hu (by omega)).cell 0, ⟨pb, po, e1, h1⟩, bb, off, e2, hc _ hgl⟩
        obtain ⟨_, ⟨pb, po, rfl, _⟩, bb, off, rfl, _⟩ := HB.out wr HK.out
        have HC : Hid (∀ u, Keeps (w.heap.size + 1) w2 u → u.cell? ⟨w.heap.size, 0, none⟩ = some (.slice (some ⟨bb, off, none⟩) zs.length cap) ∧ u.cell? ⟨pb, po + k, none⟩ = some (.int .i64 (a0 : Nat)) ∧ u.cell? ⟨bb, off + a0, none⟩ = some (.int .i64 (hz zs a0))) := fun u hu => by
          obtain ⟨h1, ⟨_, _, e1, h2⟩, _, _, e2, h3⟩ := HB.out u hu
          cases e1
          cases e2
          exact ⟨h1, h2, h3⟩
        have HKn : Hid (∀ u : World, Kept w3.drew u → Calls Try.prog 30 #[.int .i64 (hz zs a0)] u fun e w' => e = .returned (.int .i64 (hz zs a0 % 8)) ∧ Kept u w') := fun u _ => (l2Kind_ok _ u).mono (fun e w' h => ⟨h.1, by rw [← h.2]; exact Below.refl _ _⟩)
        have hj0 : (0 : Int) ≤ (k : Int) := by omega
        have hgl' : (a0 : Int) < (zs.length : Int) := by omega
        have ha00 : (0 : Int) ≤ (a0 : Int) := by omega
        have HF : Hid _ := hfn
        have HSz : Hid _ := hszI
        have HKd : Hid _ := hkdI
        have hst := szs_take (zs := zs) k
        have hfl := fwF_len zs k
        clear HB hfn hszI hkdI hpj hgd ha0 cy y2 hH
        refine wp_region_seqL (by kernel_rfl) (by kernel_rfl) ?_
        repeat (first
          | (refine SeqL.pure ?_ (by rfl) ?_ ?_; rotate_left; (focus (intro u hu; obtain ⟨z0, z1, z2⟩ := HC.out u (HK.out.trans (Kept.keeps (hk3.trans (kd3.trans hu)) _)); go_simp; first | done | exact rfl)); simp only [Act.put, List.setIfInBounds_toArray, List.set_cons_zero, List.set_cons_succ])
          | (refine SeqL.call _ _ _ (by rfl) ?_ HKn.out ?_; (focus (intro u; go_simp; done)); simp only [Act.put, List.setIfInBounds_toArray, List.set_cons_zero, List.set_cons_succ]))
        refine SeqL.nil ?_
        intro w4 hk4
        have k4 : Kept wr w4 := hk3.trans (kd3.trans hk4)
        clear HKn hk3 hk4 kd3
        by_cases hz8 : hz zs a0 % 8 = 0
        · have hd : (hz zs a0 % 8 != 0) = false := by simp [hz8]
          have hkd : kd zs a0 = 0 := by have := HKd.out; omega
          rw [if_pos hkd, if_pos hkd, List.append_nil, Nat.add_zero] at HF
          have HN1 : Hid (fwF zs (k + 1) = fwF zs k) := HF.out.1
          have HN2 : Hid (szsB (tkL ((blocks zs).take (k + 1))) = szsB (tkL ((blocks zs).take k))) := HF.out.2
          clear hz8 hkd HF
          go_wp2
          go_roundw
          case rel => exact ⟨k + 1, by go_num, by omega, by rw [HN2.out], by rw [HN1.out]; exact HO.out.kept (row := none) k4.grown (fun _ e => by cases e), HA.out, HK.out.trans (k4.keeps _)⟩
          case measure => simp [intOf]; omega
        · have hd : (hz zs a0 % 8 != 0) = true := by simpa using hz8
          have hkd : ¬ kd zs a0 = 0 := by have := HKd.out; omega
          rw [if_neg hkd, if_neg hkd] at HF
          have HN1 : Hid (fwF zs (k + 1) = fwF zs k ++ [((szsB (tkL ((blocks zs).take k)) : Nat) : Int)]) := HF.out.1
          have HN2 : Hid (szsB (tkL ((blocks zs).take (k + 1))) = szsB (tkL ((blocks zs).take k)) + sz zs a0) := HF.out.2
          have hst' := szs_take (zs := zs) (k + 1)
          rw [HN2.out] at hst'
          obtain ⟨tt, htt⟩ : ∃ tt, szsB (tkL ((blocks zs).take k)) = tt := ⟨_, rfl⟩
          rw [htt] at HN1 HN2 hst hst' ⊢
          have O4 : Hid _ := HO.out.kept (row := none) k4.grown (fun _ e => by cases e)
          have hws := (KW.trans k4).size
          clear hz8 hkd HF htt
          go_wp2_with (at_builtin; refine wpList_append_lies _ rfl _ _ 22 rfl w.heap.size 3 i0 (.int .i64 0) 1 8 Try.underlying22 hi hz0 hz1 hz2 rfl (by decide) _ _ _ rfl (O4.out.2.alloc _) ⟨w4.heap.size, 0, none⟩ 1 1 [.int .i64 (tt : Nat)] rfl rfl (cell_one_new _ _ _) (by simp [Value.oneCell']) (by omega) (by unfold maxLen; omega) (by omega) (by simp; omega) (w4.heap.size + 1) (by simp) ?_; intro gg cg w5 hown hgrow hat hlt5)
          have K5 : Keeps (w.heap.size + 1) w2 w5 := ((HK.out.trans (k4.keeps _)).alloc _).on2 hgrow (fun j e => HA.out j e)
          have HA5 : Hid (∀ j, (Value.slice (some ⟨gg, 0, none⟩) ((fwF zs k).length + 1) cg).ownBlock = some j → j = w.heap.size + 1 ∨ w2.heap.size ≤ j) := fun j e => by
            simp only [Value.ownBlock, Option.some.injEq] at e
            subst e
            rcases hat with h | h
            · exact HA.out _ h
            · have h1 := HK.out.size
              have h2 := k4.size
              omega
          have HO5 : Hid (OwnL w5 w.heap.size (.slice (some ⟨gg, 0, none⟩) ((fwF zs k).length + 1) cg) (fwF zs (k + 1))) := by
            rw [Hid, HN1.out]
            refine ⟨fun z hz => ?_, by simpa using hown⟩
            rcases List.mem_append.1 hz with h | h
            · exact HO.out.1 z h
            · rw [List.mem_singleton.1 h]; omega
          have HK5 : Hid _ := K5
          have HSn : Hid (∀ u : World, Kept w5.drew u → Calls Try.prog 31 #[.int .i64 (hz zs a0)] u fun e w' => e = .returned (.int .i64 (sz zs a0 : Nat)) ∧ Kept u w') := fun u _ => (l2Size_ok _ u).mono (fun e w' h => ⟨by rw [h.1, HSz.out], by rw [← h.2]; exact Below.refl _ _⟩)
          have kd5 : Kept w5 w5.drew := (Below.refl _ w5).drew
          have hwr : IntKind.i64.wrap (((tt : Nat) : Int) + ((sz zs a0 : Nat) : Int)) = ((tt : Nat) : Int) + ((sz zs a0 : Nat) : Int) := IntWalk.i64_in _ ⟨by omega, by omega⟩
          clear hown hgrow hat K5 O4
          refine wp_region_seqL (by kernel_rfl) (by kernel_rfl) ?_
          repeat (first
            | (refine SeqL.pure ?_ (by rfl) ?_ ?_; rotate_left; (focus (intro u hu; obtain ⟨z0, z1, z2⟩ := HC.out u (HK5.out.trans (Kept.keeps (kd5.trans hu) _)); go_simp; first | done | exact rfl)); simp only [Act.put, List.setIfInBounds_toArray, List.set_cons_zero, List.set_cons_succ])
            | (refine SeqL.call _ _ _ (by rfl) ?_ HSn.out ?_; (focus (intro u; go_simp; done)); simp only [Act.put, List.setIfInBounds_toArray, List.set_cons_zero, List.set_cons_succ]))
          refine SeqL.nil ?_
          intro w6 hk6
          have k6 : Kept w5 w6 := kd5.trans hk6
          clear HSn hk6 kd5 HC
          go_wp2
          go_roundw
          case rel => exact ⟨k + 1, by go_num, by omega, by rw [HN2.out]; simp, HO5.out.kept (row := none) k6.grown (fun _ e => by cases e), HA5.out, HK5.out.trans (k6.keeps _)⟩
          case measure => simp [intOf]; omega
      · obtain rfl : k = (blocks zs).length := by omega
        have hlt' : ¬ ((blocks zs).length : Int) < ((blocks zs).length : Int) := by omega
        clear cy y2
        go_wp2
        go_ret
        exact ⟨_, rfl, by rw [HE.out]; exact HO.out, KW⟩
end Go.Proofs.Ythloammkgogceaa
