/-
  The law FnGiven is proved: for every slice of bytes, what is given of the slab that is drawn of it is free, and one with the free ones about it, all others stay; Give, Blocks, Room and SlabNew of the program answer as their models; nothing that was there is written.
-/
import Derived.Test.YtaclgpkcdbikhaaRows
import Derived.WalkKit
import Derived.ProofKit
import Derived.OpenShut
import Derived.ShutString
import Derived.ChangeOld
import Derived.Below
import Derived.Test.YtaclgpkcdbikhaaDrawG
import Derived.Test.YtaclgpkcdbikhaaSlabV
import Derived.Deep.RegionWith
import Derived.Deep.CutRange
import Derived.Deep.RegionHeld3
namespace Go.Proofs.Ytaclgpkcdbikhaa.fnGiven
open Go.ChangeShapes Go.WideShapes Go.ChangeAt Go.RowKit
open Go.ChangeMaps (open_string shut_string)
set_option linter.unusedVariables false

theorem own : ownKnob Try.prog.godebug = none := by kernel_rfl
theorem laidOut : laidOutB Try.prog = true := by kernel_rfl

/-- WHAT THE WALK IS TOLD OF A SLICE OF INTEGERS THAT CAME IN: it is nil; or it leads to a row of 'cap' cells, the numbers 'zs' (the first 'len' are its elements, the rest its spare room), each fitting its kind. -/
def IsRow (k : IntKind) (w : World) (a : Option Addr) (len cap : Nat) (zs : List Int) : Prop :=
  (a = none ∧ len = 0 ∧ cap = 0 ∧ zs = []) ∨
  ∃ x, a = some x ∧ len ≤ cap ∧ cap ≤ maxLen ∧ zs.length = cap ∧ (∀ i, i < zs.length → w.cell? (x.add i) = some (.int k (zs.getD i 0))) ∧ ∀ n ∈ zs, (Lit.int k n).wf = true

attribute [local go_sem] field_words
set_option maxRecDepth 100000 in
set_option maxHeartbeats 16000000 in

theorem walk (a0 : Option Addr) (len0 cap0 : Nat) (z0 : List Int) (w : World) (w0 : IsRow .u8 w a0 len0 cap0 z0) :
    Calls Try.prog 4 #[.slice a0 len0 cap0] w fun e w' => e = .returned (.bool true) ∧ Below w.heap.size w w' := by
  have hs := src_of w0
  clear w0
  have hlen := hs.1
  by_cases hbig : (1048576 : Int) < (len0 : Int)
  · go_enter Try.func4, Try.ntmps4
    go_wp2_with (first | (go_at_call 6; go_in))
    go_ret
    exact ⟨rfl, Below.refl _ _⟩
  · have hD := DrawGive_ok a0 len0 cap0 _ _ hs
    go_enter Try.func4, Try.ntmps4
    go_wp2_with (first | (go_at_call 6; go_in))
    refine hD.mono ?_
    rintro e w1 ⟨v, zs, at2, rfl, hO, hl, hx0, hx1, hK1⟩
    obtain ⟨ao, cp, rfl, hI, _⟩ := hO
    have hl' : zs.length ≤ 1048576 := by omega
    have hL : zs.length * 8 ≤ 140737488351232 := by omega
    obtain ⟨rs, hrs⟩ : ∃ rs, giveL zs at2 = rs := ⟨_, rfl⟩
    have hrl : rs.length = zs.length := by rw [← hrs]; exact giveL_len _ _
    have hrl' : rs.length ≤ 1048576 := by omega
    have hrL : rs.length * 8 ≤ 140737488351232 := by omega
    have HRS : Hid (giveL zs at2 = rs) := hrs
    have ka : Kept w1 (w1.alloc (.cells #[.slice ao zs.length cp] 26)) := Kept.alloc (Below.refl _ _) _
    have xs := Cells.new w1 26 #[.slice ao zs.length cp]
    have hIa := hI.kept ka
    have hKa := hK1.trans ka
    have hGi := impl_Give_ok _ _ cp zs at2 hIa hl'
    rw [hrs] at hGi
    have hs1 := hs.below hKa
    clear hD hs ka hI hK1 hrs hrl
    go_wp2_with fail
    refine hGi.mono ?_
    rintro e w2 ⟨v2, rfl, o2, hK2⟩
    obtain ⟨la, lc, rfl, hIt⟩ := o2.ints
    have kb : Kept w2 (w2.alloc (.cells #[.slice la rs.length lc] 26)) := Kept.alloc (Below.refl _ _) _
    have xt := Cells.new w2 26 #[.slice la rs.length lc]
    have ys := (xs.kept hK2).kept kb
    have jIs := (hIa.kept hK2).kept kb
    have jIt := hIt.kept kb
    have jK := (hKa.trans hK2).trans kb
    have jS := (hs1.below hK2).below kb
    obtain ⟨Bs, hBs⟩ : ∃ Bs, w1.heap.size = Bs := ⟨_, rfl⟩
    obtain ⟨Bt, hBt⟩ : ∃ Bt, w2.heap.size = Bt := ⟨_, rfl⟩
    go_wp2_with fail
    obtain ⟨W, hW⟩ : ∃ W, w2.alloc (.cells #[.slice la rs.length lc] 26) = W := ⟨_, rfl⟩
    rw [hBs] at ys
    rw [hBt] at xt
    rw [hW] at ys xt jIs jIt jK jS
    rw [hW]
    clear hW hBs hBt kb xs hIt hKa hIa hK2 o2 hGi hs1
    have ls := ys.lt
    have lt := xt.lt
    have c5s := ys.cell 0
    have c5t := xt.cell 0
    go_cut [31] from 24 to 30 (fun s31 wx => s31 = .bool false ∧ Kept W wx)
    case first =>
      have kd : Kept W W.drew := (Below.refl _ W).drew
      have hGs := spec_Give_ok _ _ cp zs at2 (jIs.kept kd) hl'
      rw [HRS.out] at hGs
      have yd := xt.kept kd
      have id := jIt.kept kd
      go_region_with (first | (go_at_call 18; refine hGs.mono ?_; rintro e w5 ⟨v5, rfl, o5, hk5, _⟩; obtain ⟨ua, uc, rfl, hIu⟩ := o5.ints; have c6t := (yd.kept hk5).cell 0; have i6 := id.kept hk5) | (go_at_call 10; refine (sameInts_ok _ _ _ _ _ rs i6 hIu hrl').mono ?_; rintro e w6 ⟨rfl, hk6⟩))
      all_goals (go_wp2_with fail; go_meet; exact ⟨rfl, (Kept.trans kd hk5).trans hk6⟩)
    case rest =>
    obtain ⟨rfl, hKc⟩ := hcut
    rename_i wx
    have ys := ys.kept hKc
    have xt := xt.kept hKc
    have jIs := jIs.kept hKc
    have jIt := jIt.kept hKc
    have jK := jK.trans hKc
    have jS := jS.below hKc
    have c7s := ys.cell 0
    clear c5s c5t ls lt hKc
    go_wp2_with fail
    refine (impl_Blocks_ok _ _ cp zs jIs hL).mono ?_
    rintro e w7 ⟨v7, rfl, o7, hK7⟩
    obtain ⟨pa, pc, rfl, hIp⟩ := o7.ints
    have ys := ys.kept hK7
    have xt := xt.kept hK7
    have jIs := jIs.kept hK7
    have jIt := jIt.kept hK7
    have jK := jK.trans hK7
    have jS := jS.below hK7
    have c8s := ys.cell 0
    have hpl : (places zs).length ≤ 1048576 := by
      have := blocks_count zs
      unfold places
      split
      · simp; omega
      · simp
    clear c7s hK7 o7
    go_wp2_with fail
    go_cut [45] from 34 to 44 (fun s45 wx => s45 = .bool false ∧ Kept w7 wx)
    case first =>
      have kd : Kept w7 w7.drew := (Below.refl _ w7).drew
      have hBs := fun (u : World) (hu : Kept w7 u) => spec_Blocks_ok u _ cp zs (jIs.kept hu) hL
      have hRi := fun (u : World) (hu : Kept w7 u) => impl_Room_ok u _ cp zs (jIs.kept hu) hL
      have hRs := fun (u : World) (hu : Kept w7 u) => spec_Room_ok u _ cp zs (jIs.kept hu) hL
      have HBs : Hid _ := hBs
      have HRi : Hid _ := hRi
      have HRs : Hid _ := hRs
      have K := kd
      have cd := (ys.kept kd).cell 0
      clear hBs hRi hRs
      go_region_held3 (fun w' => w'.cell? ⟨Bs, 0, none⟩ = some (.slice ao zs.length cp)) (first | assumption | go_keep) (first | (go_at_call 20; refine (HBs.out _ K).mono ?_; rintro e w8 ⟨v8, rfl, o8, hk8⟩; obtain ⟨ua, uc, rfl, hIu⟩ := o8.ints; have K := K.trans hk8; have cd := (ys.kept K).cell 0) | (go_at_call 10; refine (sameInts_ok _ _ _ _ _ (places zs) (hIp.kept K) hIu hpl).mono ?_; rintro e w9 ⟨rfl, hk9⟩; have K := K.trans hk9; have cd := (ys.kept K).cell 0) | (go_at_call 16; refine (HRi.out _ K).mono ?_; rintro e w9 ⟨rfl, hk9⟩; have K := K.trans hk9; have cd := (ys.kept K).cell 0) | (go_at_call 21; refine (HRs.out _ K).mono ?_; rintro e w9 ⟨rfl, hk9⟩; have K := K.trans hk9; have cd := (ys.kept K).cell 0))
      all_goals (go_wp2_with fail; go_meet; exact ⟨rfl, K⟩)
    case rest =>
    obtain ⟨rfl, hKc⟩ := hcut
    have ys := ys.kept hKc
    have xt := xt.kept hKc
    have jIs := jIs.kept hKc
    have jIt := jIt.kept hKc
    have jK := jK.trans hKc
    have jS := jS.below hKc
    have hIp := hIp.kept hKc
    have hN := DrawSlabNew_ok a0 len0 cap0 _ _ jS
    clear c8s hKc
    go_wp2_with fail
    refine hN.mono ?_
    rintro e w9 ⟨n, rfl, hn0, hn1, hK9⟩
    have ys := ys.kept hK9
    have xt := xt.kept hK9
    have jIs := jIs.kept hK9
    have jIt := jIt.kept hK9
    have jK := jK.trans hK9
    have hIp := hIp.kept hK9
    clear hN hK9 jS
    rcases (show (n < 2 ∨ 2000 < n) ∨ (2 ≤ n ∧ n ≤ 2000) by omega) with hA | ⟨hA, hA'⟩
    · go_wp2_with fail
      refine (impl_SlabNew_no _ n hA).mono ?_
      rintro e w10 ⟨rfl, hK10⟩
      have kA : Kept w10 (w10.alloc (.cells #[.slice none 0 0] 26)) := Kept.alloc (Below.refl _ _) _
      go_wp2_with fail
      refine (spec_SlabNew_no _ n hA).mono ?_
      rintro e w11 ⟨rfl, hK11⟩
      have kB : Kept w11 (w11.alloc (.cells #[.slice none 0 0] 26)) := Kept.alloc (Below.refl _ _) _
      have K13 := ((hK10.trans kA).trans hK11).trans kB
      go_wp2_with fail
      obtain ⟨W13, hW13⟩ : ∃ W13, w11.alloc (.cells #[.slice none 0 0] 26) = W13 := ⟨_, rfl⟩
      rw [hW13] at K13 ⊢
      clear hW13 hK10 hK11 kA kB
      have ys := ys.kept K13
      have xt := xt.kept K13
      have jIs := jIs.kept K13
      have jIt := jIt.kept K13
      have jK := jK.trans K13
      have hIp := hIp.kept K13
      have HS : Hid (∀ u, Kept W13 u → Calls Try.prog 12 #[.agg #[.slice ao zs.length cp]] u fun e w' => e = .returned (.bool (slabOk zs)) ∧ Kept u w') := fun u hu => spec_SlabOk_ok u _ cp zs (jIs.kept hu) hL
      have HT : Hid (∀ u, Kept W13 u → Calls Try.prog 11 #[.agg #[.slice la rs.length lc]] u fun e w' => e = .returned (.bool (slabOk rs)) ∧ Kept u w') := fun u hu => impl_SlabOk_ok u _ lc rs (jIt.kept hu) hrL
      clear K13
      cases hok : slabOk zs with
      | false =>
        have hP : (places zs).length = 0 := by simp [places, hok]
        have hS := HS.out _ (Below.refl _ W13)
        rw [hok] at hS
        have cs := ys.cell 0
        clear hok
        go_loopw [12, 13] (fun _ i wr => wr = W13 ∧ i = .int .i64 0) (fun _ _ _ => 0)
        case atStart => exact ⟨by first | rfl | trivial, rfl⟩
        case round =>
          obtain ⟨rfl, rfl⟩ := hrel
          go_wp2_with (go_at_call 12; refine hS.mono ?_; rintro e w20 ⟨rfl, hk20⟩)
          go_ret
          exact ⟨rfl, jK.trans hk20⟩
      | true =>
        have hlenP : (places zs).length = (blocks zs).length := places_len hok
        have hatP : ∀ k (hk : k < (blocks zs).length), hz (places zs) k = (((blocks zs)[k].1.at' : Nat) : Int) := fun k hk => by simp [hz, places, hok, hk]
        have hgo := giveL_ok at2 hok
        rw [HRS.out] at hgo
        have HG : Hid _ := hgo
        have HO : Hid (slabOk zs = true) := hok
        have HAt : Hid _ := hatP
        have HSA := sumB_all hok
        have HSL := fun k => sumB_le hok k
        have HIp : Hid (Ints W13 pa (places zs)) := hIp
        obtain ⟨M, hM⟩ : ∃ M, (blocks zs).length = M := ⟨_, rfl⟩
        have HM : Hid ((blocks zs).length = M) := hM
        have HPM : Hid ((places zs).length = M) := hlenP.trans hM
        have hM91 : M ≤ 91 := by have := blocks_count zs; omega
        have HSA' : Hid _ := HSA
        have HSL' : Hid _ := HSL
        rw [HPM.out]
        clear hok hatP hgo hlenP hIp hM HSA HSL
        go_loopw [12, 13] (fun sv i wr => ∃ k : Nat, i = .int .i64 k ∧ sv = .int .i64 ((sumB ((blocks zs).take k) : Nat) : Int) ∧ k ≤ M ∧ Kept W13 wr) (fun _ i _ => M - (intOf i).toNat)
        case atStart => exact ⟨0, rfl, by simp [sumB], Nat.zero_le _, Below.refl _ _⟩
        case round =>
          obtain ⟨k, rfl, rfl, hk, hK⟩ := hrel
          obtain ⟨sm, hsm⟩ : ∃ sm, sumB ((blocks zs).take k) = sm := ⟨_, rfl⟩
          have hsmb := HSL'.out k
          rw [hsm] at hsmb
          rw [hsm]
          by_cases hlt : k < M
          · have hkb : k < (blocks zs).length := by have := HM.out; omega
            have hmem := List.getElem_mem hkb
            have hsn := sumB_take hkb
            have hraw : (blocks zs)[k].1 ∈ raw (blocks zs) := List.mem_map.2 ⟨_, hmem, rfl⟩
            have hka := kindAt_mem HO.out hmem
            have hza := sizeAt_mem HO.out hmem
            have hle2 := (blocks zs)[k].2
            have hstay : (((blocks zs)[k].1.at' : Nat) : Int) ≠ at2 → (blocks zs)[k].1.kind ≠ 0 → kindAt rs (((blocks zs)[k].1.at' : Nat) : Int) = (((blocks zs)[k].1.kind : Nat) : Int) ∧ sizeAt rs (((blocks zs)[k].1.at' : Nat) : Int) = (((blocks zs)[k].1.size : Nat) : Int) := fun h1 h2 => kindAt_raw HG.out.1 (HG.out.2 _ hraw h1 h2)
            obtain ⟨bb, off, rfl, hc⟩ := HIp.out.at (k := k) (by rw [HPM.out]; exact hlt)
            have hck := hc k (by rw [HPM.out]; exact hlt)
            rw [HAt.out k hkb] at hck
            rw [hsm] at hsn
            generalize (blocks zs)[k].1.at' = na at *
            generalize (blocks zs)[k].1.size = ns at *
            generalize (blocks zs)[k].1.kind = nk at *
            obtain ⟨ba, hba⟩ : ∃ ba : Int, (na : Int) = ba := ⟨_, rfl⟩
            rw [hba] at hck hka hza hstay
            have hbl : bb < W13.heap.size := World.block_lt_of_cell? _ _ hck
            have HSum : Hid (sumB ((blocks zs).take (k + 1)) = sm + ns) := hsn
            have HKa : Hid (kindAt zs ba = (nk : Int)) := hka
            have HZa : Hid (sizeAt zs ba = (ns : Int)) := hza
            have HSt : Hid _ := hstay
            have x1 : ∀ u, Kept wr.drew u → u.cell? ⟨Bs, 0, none⟩ = some (.slice ao zs.length cp) := fun u hu => (ys.kept (hK.trans (Kept.trans ((Below.refl _ wr).drew) hu))).cell 0
            have y1 : ∀ u, Kept wr.drew u → u.cell? ⟨bb, off + k, none⟩ = some (.int .i64 ba) := fun u hu => ((hK.trans (Kept.trans ((Below.refl _ wr).drew) hu)).cell (p := ⟨bb, off + k, none⟩) hbl).trans hck
            have hC : Hid (∀ u, Kept wr.drew u → Calls Try.prog 14 #[.agg #[.slice ao zs.length cp], .int .i64 ba] u fun e w' => e = .returned (.int .i64 (ns : Int)) ∧ Kept u w') := fun u hu => by
              have := impl_SizeAt_ok u _ cp zs ba (jIs.kept (hK.trans (Kept.trans ((Below.refl _ wr).drew) hu))) hL
              rw [HZa.out] at this
              exact this
            have q1 : (k : Int) < (M : Int) := by omega
            have r1 : IntKind.i64.wrap ((sm : Int) + (ns : Int)) = (sm : Int) + (ns : Int) := IntWalk.i64_in _ ⟨by omega, by omega⟩
            have HK : Hid (Kept W13 wr) := hK
            have HCk : Hid (W13.cell? ⟨bb, off + k, none⟩ = some (.int .i64 ba)) := hck
            clear hc hck hsn hka hza hstay hba hraw hmem hK hsm
            go_wp2_with fail
            refine wp_region_seqL (by kernel_rfl) (by kernel_rfl) ?_
            repeat (first
              | (refine SeqL.skip (by rfl) ?_; simp only [Act.put, List.setIfInBounds_toArray, List.set_cons_zero, List.set_cons_succ])
              | (refine SeqL.pure ?_ (by rfl) ?_ ?_; rotate_left; (focus (intro u hu; have x1' := x1 u hu; have y1' := y1 u hu; go_simp; first | done | exact rfl)); simp only [Act.put, List.setIfInBounds_toArray, List.set_cons_zero, List.set_cons_succ])
              | (refine SeqL.call _ _ _ (by rfl) ?_ hC.out ?_; (focus (intro u; go_simp; done)); simp only [Act.put, List.setIfInBounds_toArray, List.set_cons_zero, List.set_cons_succ]))
            refine SeqL.nil ?_
            intro u19 hu19
            have K19 := HK.out.trans (Kept.trans ((Below.refl _ wr).drew) hu19)
            clear x1 y1 hC hu19
            have x1 : ∀ u, Kept u19.drew u → u.cell? ⟨Bs, 0, none⟩ = some (.slice ao zs.length cp) := fun u hu => (ys.kept (K19.trans (Kept.trans ((Below.refl _ u19).drew) hu))).cell 0
            have x2 : ∀ u, Kept u19.drew u → u.cell? ⟨Bt, 0, none⟩ = some (.slice la rs.length lc) := fun u hu => (xt.kept (K19.trans (Kept.trans ((Below.refl _ u19).drew) hu))).cell 0
            have y1 : ∀ u, Kept u19.drew u → u.cell? ⟨bb, off + k, none⟩ = some (.int .i64 ba) := fun u hu => ((K19.trans (Kept.trans ((Below.refl _ u19).drew) hu)).cell (p := ⟨bb, off + k, none⟩) hbl).trans HCk.out
            have hD1 : Hid (∀ u, Kept u19.drew u → Calls Try.prog 13 #[.agg #[.slice ao zs.length cp], .int .i64 ba] u fun e w' => e = .returned (.int .i64 (nk : Int)) ∧ Kept u w') := fun u hu => by
              have := impl_KindAt_ok u _ cp zs ba (jIs.kept (K19.trans (Kept.trans ((Below.refl _ u19).drew) hu))) hL
              rw [HKa.out] at this
              exact this
            go_wp2_with fail
            by_cases h2 : ba = at2
            · have t2 : (ba == at2) = true := by simp [h2]
              have t2' : (ba != at2) = false := by simp [h2]
              clear h2
              refine wp_region_seqL (by kernel_rfl) (by kernel_rfl) ?_
              repeat (first
                | (refine SeqL.skip (by rfl) ?_; simp only [Act.put, List.setIfInBounds_toArray, List.set_cons_zero, List.set_cons_succ])
                | (refine SeqL.pure ?_ (by rfl) ?_ ?_; rotate_left; (focus (intro u hu; have x1' := x1 u hu; have x2' := x2 u hu; have y1' := y1 u hu; go_simp; first | done | exact rfl)); simp only [Act.put, List.setIfInBounds_toArray, List.set_cons_zero, List.set_cons_succ])
                | (refine SeqL.call _ _ _ (by rfl) ?_ hD1.out ?_; (focus (intro u; go_simp; done)); simp only [Act.put, List.setIfInBounds_toArray, List.set_cons_zero, List.set_cons_succ]))
              refine SeqL.nil ?_
              intro u20 hu20
              have K20 := K19.trans (Kept.trans ((Below.refl _ u19).drew) hu20)
              clear x1 x2 y1
              go_wp2_with fail
              go_roundw
              case rel => exact ⟨k + 1, by go_num, by rw [HSum.out, Int.natCast_add], by omega, K20⟩
              case measure => simp [intOf]; omega
            · have t2 : (ba == at2) = false := by simpa using h2
              have t2' : (ba != at2) = true := by simpa using h2
              by_cases h0 : nk = 0
              · have t0 : ((nk : Int) == 0) = true := by simp [h0]
                have t0' : ((nk : Int) != 0) = false := by simp [h0]
                clear h2 h0
                refine wp_region_seqL (by kernel_rfl) (by kernel_rfl) ?_
                repeat (first
                  | (refine SeqL.skip (by rfl) ?_; simp only [Act.put, List.setIfInBounds_toArray, List.set_cons_zero, List.set_cons_succ])
                  | (refine SeqL.pure ?_ (by rfl) ?_ ?_; rotate_left; (focus (intro u hu; have x1' := x1 u hu; have x2' := x2 u hu; have y1' := y1 u hu; go_simp; first | done | exact rfl)); simp only [Act.put, List.setIfInBounds_toArray, List.set_cons_zero, List.set_cons_succ])
                  | (refine SeqL.call _ _ _ (by rfl) ?_ hD1.out ?_; (focus (intro u; go_simp; done)); simp only [Act.put, List.setIfInBounds_toArray, List.set_cons_zero, List.set_cons_succ]))
                refine SeqL.nil ?_
                intro u20 hu20
                have K20 := K19.trans (Kept.trans ((Below.refl _ u19).drew) hu20)
                clear x1 x2 y1
                go_wp2_with fail
                go_roundw
                case rel => exact ⟨k + 1, by go_num, by rw [HSum.out, Int.natCast_add], by omega, K20⟩
                case measure => simp [intOf]; omega
              · have t0 : ((nk : Int) == 0) = false := by simpa using h0
                have t0' : ((nk : Int) != 0) = true := by simpa using h0
                obtain ⟨hs1, hs2⟩ := HSt.out h2 h0
                have hD2 : Hid (∀ u, Kept u19.drew u → Calls Try.prog 13 #[.agg #[.slice la rs.length lc], .int .i64 ba] u fun e w' => e = .returned (.int .i64 (nk : Int)) ∧ Kept u w') := fun u hu => by
                  have := impl_KindAt_ok u _ lc rs ba (jIt.kept (K19.trans (Kept.trans ((Below.refl _ u19).drew) hu))) hrL
                  rw [hs1] at this
                  exact this
                have hD3 : Hid (∀ u, Kept u19.drew u → Calls Try.prog 14 #[.agg #[.slice la rs.length lc], .int .i64 ba] u fun e w' => e = .returned (.int .i64 (ns : Int)) ∧ Kept u w') := fun u hu => by
                  have := impl_SizeAt_ok u _ lc rs ba (jIt.kept (K19.trans (Kept.trans ((Below.refl _ u19).drew) hu))) hrL
                  rw [hs2] at this
                  exact this
                have hD4 : Hid (∀ u, Kept u19.drew u → Calls Try.prog 14 #[.agg #[.slice ao zs.length cp], .int .i64 ba] u fun e w' => e = .returned (.int .i64 (ns : Int)) ∧ Kept u w') := fun u hu => by
                  have := impl_SizeAt_ok u _ cp zs ba (jIs.kept (K19.trans (Kept.trans ((Below.refl _ u19).drew) hu))) hL
                  rw [HZa.out] at this
                  exact this
                clear h2 h0 hs1 hs2
                refine wp_region_seqL (by kernel_rfl) (by kernel_rfl) ?_
                repeat (first
                  | (refine SeqL.skip (by rfl) ?_; simp only [Act.put, List.setIfInBounds_toArray, List.set_cons_zero, List.set_cons_succ])
                  | (refine SeqL.pure ?_ (by rfl) ?_ ?_; rotate_left; (focus (intro u hu; have x1' := x1 u hu; have x2' := x2 u hu; have y1' := y1 u hu; go_simp; first | done | exact rfl)); simp only [Act.put, List.setIfInBounds_toArray, List.set_cons_zero, List.set_cons_succ])
                  | (refine SeqL.call _ _ _ (by rfl) ?_ hD1.out ?_; (focus (intro u; go_simp; done)); simp only [Act.put, List.setIfInBounds_toArray, List.set_cons_zero, List.set_cons_succ])
                  | (refine SeqL.call _ _ _ (by rfl) ?_ hD2.out ?_; (focus (intro u; go_simp; done)); simp only [Act.put, List.setIfInBounds_toArray, List.set_cons_zero, List.set_cons_succ])
                  | (refine SeqL.call _ _ _ (by rfl) ?_ hD3.out ?_; (focus (intro u; go_simp; done)); simp only [Act.put, List.setIfInBounds_toArray, List.set_cons_zero, List.set_cons_succ])
                  | (refine SeqL.call _ _ _ (by rfl) ?_ hD4.out ?_; (focus (intro u; go_simp; done)); simp only [Act.put, List.setIfInBounds_toArray, List.set_cons_zero, List.set_cons_succ]))
                refine SeqL.nil ?_
                intro u20 hu20
                have K20 := K19.trans (Kept.trans ((Below.refl _ u19).drew) hu20)
                clear x1 x2 y1
                go_wp2_with fail
                go_roundw
                case rel => exact ⟨k + 1, by go_num, by rw [HSum.out, Int.natCast_add], by omega, K20⟩
                case measure => simp [intOf]; omega
          · have hSe := HS.out _ hK
            rw [HO.out] at hSe
            have hTe := fun (u : World) (hu : Kept W13 u) => HT.out u hu
            rw [HG.out.1] at hTe
            have HTe : Hid _ := hTe
            have cs := (ys.kept hK).cell 0
            have esm : ((sm : Int) == (zs.length : Int)) = true := by
              have h1 := HSA'.out
              have h2 : (blocks zs).take k = blocks zs := List.take_of_length_le (by have := HM.out; omega)
              rw [h2] at hsm
              simp; omega
            clear hTe hsm
            go_wp2_with fail
            refine hSe.mono ?_
            rintro e w20 ⟨rfl, hk20⟩
            have cs2 := (ys.kept (hK.trans hk20)).cell 0
            have ct2 := (xt.kept (hK.trans hk20)).cell 0
            go_wp2_with fail
            refine (HTe.out _ (hK.trans hk20)).mono ?_
            rintro e w21 ⟨rfl, hk21⟩
            go_wp2
            go_ret
            exact ⟨rfl, ((jK.trans hK).trans hk20).trans hk21⟩
    · obtain ⟨m, rfl⟩ : ∃ m : Nat, n = m := ⟨n.toNat, by omega⟩
      have hnew := newL_ok (n := m) (by omega) (by omega)
      go_wp2_with fail
      refine (impl_SlabNew_yes _ m (by omega) (by omega)).mono ?_
      rintro e w10 ⟨g, rfl, hg, hRg, hK10⟩
      have kA : Kept w10 (w10.alloc (.cells #[.slice (some ⟨g, 0, none⟩) m m] 26)) := Kept.alloc (Below.refl _ _) _
      have xf := Cells.new w10 26 #[.slice (some ⟨g, 0, none⟩) m m]
      have Rg := hRg.kept kA
      go_wp2_with fail
      refine (spec_SlabNew_yes _ m (by omega) (by omega)).mono ?_
      rintro e w11 ⟨g', rfl, hg', _, hK11, _⟩
      have kB : Kept w11 (w11.alloc (.cells #[.slice (some ⟨g', 0, none⟩) m m] 26)) := Kept.alloc (Below.refl _ _) _
      have K12 := ((hK10.trans kA).trans hK11).trans kB
      have xf := (xf.kept hK11).kept kB
      have Rg := (Rg.kept hK11).kept kB
      have cf := xf.cell 0
      have hF1 := fun (u : World) (hu : Kept (w11.alloc (.cells #[.slice (some ⟨g', 0, none⟩) m m] 26)) u) => impl_SlabOk_ok u _ m (newL m) (Rg.kept hu).ints (by rw [newL_len]; omega)
      have hF2 := fun (u : World) (hu : Kept (w11.alloc (.cells #[.slice (some ⟨g', 0, none⟩) m m] 26)) u) => impl_Room_ok u _ m (newL m) (Rg.kept hu).ints (by rw [newL_len]; omega)
      rw [hnew.1, newL_len] at hF1
      rw [hnew.2, newL_len] at hF2
      have HF1 : Hid _ := hF1
      have HF2 : Hid _ := hF2
      obtain ⟨Bf, hBf⟩ : ∃ Bf, w10.heap.size = Bf := ⟨_, rfl⟩
      rw [hBf] at xf cf
      clear hF1 hF2 hnew hRg hg hg'
      go_wp2_with fail
      refine (HF1.out _ (Below.refl _ _)).mono ?_
      rintro e w12 ⟨rfl, hK12⟩
      have cf2 := (xf.kept hK12).cell 0
      go_wp2_with fail
      refine (HF2.out _ hK12).mono ?_
      rintro e W13 ⟨rfl, hK13⟩
      have K13 := (K12.trans hK12).trans hK13
      clear HF1 HF2 cf cf2 xf Rg hK10 hK11 hK12 hK13 kA kB K12 hBf
      go_wp2_with fail
      have ys := ys.kept K13
      have xt := xt.kept K13
      have jIs := jIs.kept K13
      have jIt := jIt.kept K13
      have jK := jK.trans K13
      have hIp := hIp.kept K13
      have HS : Hid (∀ u, Kept W13 u → Calls Try.prog 12 #[.agg #[.slice ao zs.length cp]] u fun e w' => e = .returned (.bool (slabOk zs)) ∧ Kept u w') := fun u hu => spec_SlabOk_ok u _ cp zs (jIs.kept hu) hL
      have HT : Hid (∀ u, Kept W13 u → Calls Try.prog 11 #[.agg #[.slice la rs.length lc]] u fun e w' => e = .returned (.bool (slabOk rs)) ∧ Kept u w') := fun u hu => impl_SlabOk_ok u _ lc rs (jIt.kept hu) hrL
      clear K13
      cases hok : slabOk zs with
      | false =>
        have hP : (places zs).length = 0 := by simp [places, hok]
        have hS := HS.out _ (Below.refl _ W13)
        rw [hok] at hS
        have cs := ys.cell 0
        clear hok
        go_loopw [12, 13] (fun _ i wr => wr = W13 ∧ i = .int .i64 0) (fun _ _ _ => 0)
        case atStart => exact ⟨by first | rfl | trivial, rfl⟩
        case round =>
          obtain ⟨rfl, rfl⟩ := hrel
          go_wp2_with (go_at_call 12; refine hS.mono ?_; rintro e w20 ⟨rfl, hk20⟩)
          go_ret
          exact ⟨rfl, jK.trans hk20⟩
      | true =>
        have hlenP : (places zs).length = (blocks zs).length := places_len hok
        have hatP : ∀ k (hk : k < (blocks zs).length), hz (places zs) k = (((blocks zs)[k].1.at' : Nat) : Int) := fun k hk => by simp [hz, places, hok, hk]
        have hgo := giveL_ok at2 hok
        rw [HRS.out] at hgo
        have HG : Hid _ := hgo
        have HO : Hid (slabOk zs = true) := hok
        have HAt : Hid _ := hatP
        have HSA := sumB_all hok
        have HSL := fun k => sumB_le hok k
        have HIp : Hid (Ints W13 pa (places zs)) := hIp
        obtain ⟨M, hM⟩ : ∃ M, (blocks zs).length = M := ⟨_, rfl⟩
        have HM : Hid ((blocks zs).length = M) := hM
        have HPM : Hid ((places zs).length = M) := hlenP.trans hM
        have hM91 : M ≤ 91 := by have := blocks_count zs; omega
        have HSA' : Hid _ := HSA
        have HSL' : Hid _ := HSL
        rw [HPM.out]
        clear hok hatP hgo hlenP hIp hM HSA HSL
        go_loopw [12, 13] (fun sv i wr => ∃ k : Nat, i = .int .i64 k ∧ sv = .int .i64 ((sumB ((blocks zs).take k) : Nat) : Int) ∧ k ≤ M ∧ Kept W13 wr) (fun _ i _ => M - (intOf i).toNat)
        case atStart => exact ⟨0, rfl, by simp [sumB], Nat.zero_le _, Below.refl _ _⟩
        case round =>
          obtain ⟨k, rfl, rfl, hk, hK⟩ := hrel
          obtain ⟨sm, hsm⟩ : ∃ sm, sumB ((blocks zs).take k) = sm := ⟨_, rfl⟩
          have hsmb := HSL'.out k
          rw [hsm] at hsmb
          rw [hsm]
          by_cases hlt : k < M
          · have hkb : k < (blocks zs).length := by have := HM.out; omega
            have hmem := List.getElem_mem hkb
            have hsn := sumB_take hkb
            have hraw : (blocks zs)[k].1 ∈ raw (blocks zs) := List.mem_map.2 ⟨_, hmem, rfl⟩
            have hka := kindAt_mem HO.out hmem
            have hza := sizeAt_mem HO.out hmem
            have hle2 := (blocks zs)[k].2
            have hstay : (((blocks zs)[k].1.at' : Nat) : Int) ≠ at2 → (blocks zs)[k].1.kind ≠ 0 → kindAt rs (((blocks zs)[k].1.at' : Nat) : Int) = (((blocks zs)[k].1.kind : Nat) : Int) ∧ sizeAt rs (((blocks zs)[k].1.at' : Nat) : Int) = (((blocks zs)[k].1.size : Nat) : Int) := fun h1 h2 => kindAt_raw HG.out.1 (HG.out.2 _ hraw h1 h2)
            obtain ⟨bb, off, rfl, hc⟩ := HIp.out.at (k := k) (by rw [HPM.out]; exact hlt)
            have hck := hc k (by rw [HPM.out]; exact hlt)
            rw [HAt.out k hkb] at hck
            rw [hsm] at hsn
            generalize (blocks zs)[k].1.at' = na at *
            generalize (blocks zs)[k].1.size = ns at *
            generalize (blocks zs)[k].1.kind = nk at *
            obtain ⟨ba, hba⟩ : ∃ ba : Int, (na : Int) = ba := ⟨_, rfl⟩
            rw [hba] at hck hka hza hstay
            have hbl : bb < W13.heap.size := World.block_lt_of_cell? _ _ hck
            have HSum : Hid (sumB ((blocks zs).take (k + 1)) = sm + ns) := hsn
            have HKa : Hid (kindAt zs ba = (nk : Int)) := hka
            have HZa : Hid (sizeAt zs ba = (ns : Int)) := hza
            have HSt : Hid _ := hstay
            have x1 : ∀ u, Kept wr.drew u → u.cell? ⟨Bs, 0, none⟩ = some (.slice ao zs.length cp) := fun u hu => (ys.kept (hK.trans (Kept.trans ((Below.refl _ wr).drew) hu))).cell 0
            have y1 : ∀ u, Kept wr.drew u → u.cell? ⟨bb, off + k, none⟩ = some (.int .i64 ba) := fun u hu => ((hK.trans (Kept.trans ((Below.refl _ wr).drew) hu)).cell (p := ⟨bb, off + k, none⟩) hbl).trans hck
            have hC : Hid (∀ u, Kept wr.drew u → Calls Try.prog 14 #[.agg #[.slice ao zs.length cp], .int .i64 ba] u fun e w' => e = .returned (.int .i64 (ns : Int)) ∧ Kept u w') := fun u hu => by
              have := impl_SizeAt_ok u _ cp zs ba (jIs.kept (hK.trans (Kept.trans ((Below.refl _ wr).drew) hu))) hL
              rw [HZa.out] at this
              exact this
            have q1 : (k : Int) < (M : Int) := by omega
            have r1 : IntKind.i64.wrap ((sm : Int) + (ns : Int)) = (sm : Int) + (ns : Int) := IntWalk.i64_in _ ⟨by omega, by omega⟩
            have HK : Hid (Kept W13 wr) := hK
            have HCk : Hid (W13.cell? ⟨bb, off + k, none⟩ = some (.int .i64 ba)) := hck
            clear hc hck hsn hka hza hstay hba hraw hmem hK hsm
            go_wp2_with fail
            refine wp_region_seqL (by kernel_rfl) (by kernel_rfl) ?_
            repeat (first
              | (refine SeqL.skip (by rfl) ?_; simp only [Act.put, List.setIfInBounds_toArray, List.set_cons_zero, List.set_cons_succ])
              | (refine SeqL.pure ?_ (by rfl) ?_ ?_; rotate_left; (focus (intro u hu; have x1' := x1 u hu; have y1' := y1 u hu; go_simp; first | done | exact rfl)); simp only [Act.put, List.setIfInBounds_toArray, List.set_cons_zero, List.set_cons_succ])
              | (refine SeqL.call _ _ _ (by rfl) ?_ hC.out ?_; (focus (intro u; go_simp; done)); simp only [Act.put, List.setIfInBounds_toArray, List.set_cons_zero, List.set_cons_succ]))
            refine SeqL.nil ?_
            intro u19 hu19
            have K19 := HK.out.trans (Kept.trans ((Below.refl _ wr).drew) hu19)
            clear x1 y1 hC hu19
            have x1 : ∀ u, Kept u19.drew u → u.cell? ⟨Bs, 0, none⟩ = some (.slice ao zs.length cp) := fun u hu => (ys.kept (K19.trans (Kept.trans ((Below.refl _ u19).drew) hu))).cell 0
            have x2 : ∀ u, Kept u19.drew u → u.cell? ⟨Bt, 0, none⟩ = some (.slice la rs.length lc) := fun u hu => (xt.kept (K19.trans (Kept.trans ((Below.refl _ u19).drew) hu))).cell 0
            have y1 : ∀ u, Kept u19.drew u → u.cell? ⟨bb, off + k, none⟩ = some (.int .i64 ba) := fun u hu => ((K19.trans (Kept.trans ((Below.refl _ u19).drew) hu)).cell (p := ⟨bb, off + k, none⟩) hbl).trans HCk.out
            have hD1 : Hid (∀ u, Kept u19.drew u → Calls Try.prog 13 #[.agg #[.slice ao zs.length cp], .int .i64 ba] u fun e w' => e = .returned (.int .i64 (nk : Int)) ∧ Kept u w') := fun u hu => by
              have := impl_KindAt_ok u _ cp zs ba (jIs.kept (K19.trans (Kept.trans ((Below.refl _ u19).drew) hu))) hL
              rw [HKa.out] at this
              exact this
            go_wp2_with fail
            by_cases h2 : ba = at2
            · have t2 : (ba == at2) = true := by simp [h2]
              have t2' : (ba != at2) = false := by simp [h2]
              clear h2
              refine wp_region_seqL (by kernel_rfl) (by kernel_rfl) ?_
              repeat (first
                | (refine SeqL.skip (by rfl) ?_; simp only [Act.put, List.setIfInBounds_toArray, List.set_cons_zero, List.set_cons_succ])
                | (refine SeqL.pure ?_ (by rfl) ?_ ?_; rotate_left; (focus (intro u hu; have x1' := x1 u hu; have x2' := x2 u hu; have y1' := y1 u hu; go_simp; first | done | exact rfl)); simp only [Act.put, List.setIfInBounds_toArray, List.set_cons_zero, List.set_cons_succ])
                | (refine SeqL.call _ _ _ (by rfl) ?_ hD1.out ?_; (focus (intro u; go_simp; done)); simp only [Act.put, List.setIfInBounds_toArray, List.set_cons_zero, List.set_cons_succ]))
              refine SeqL.nil ?_
              intro u20 hu20
              have K20 := K19.trans (Kept.trans ((Below.refl _ u19).drew) hu20)
              clear x1 x2 y1
              go_wp2_with fail
              go_roundw
              case rel => exact ⟨k + 1, by go_num, by rw [HSum.out, Int.natCast_add], by omega, K20⟩
              case measure => simp [intOf]; omega
            · have t2 : (ba == at2) = false := by simpa using h2
              have t2' : (ba != at2) = true := by simpa using h2
              by_cases h0 : nk = 0
              · have t0 : ((nk : Int) == 0) = true := by simp [h0]
                have t0' : ((nk : Int) != 0) = false := by simp [h0]
                clear h2 h0
                refine wp_region_seqL (by kernel_rfl) (by kernel_rfl) ?_
                repeat (first
                  | (refine SeqL.skip (by rfl) ?_; simp only [Act.put, List.setIfInBounds_toArray, List.set_cons_zero, List.set_cons_succ])
                  | (refine SeqL.pure ?_ (by rfl) ?_ ?_; rotate_left; (focus (intro u hu; have x1' := x1 u hu; have x2' := x2 u hu; have y1' := y1 u hu; go_simp; first | done | exact rfl)); simp only [Act.put, List.setIfInBounds_toArray, List.set_cons_zero, List.set_cons_succ])
                  | (refine SeqL.call _ _ _ (by rfl) ?_ hD1.out ?_; (focus (intro u; go_simp; done)); simp only [Act.put, List.setIfInBounds_toArray, List.set_cons_zero, List.set_cons_succ]))
                refine SeqL.nil ?_
                intro u20 hu20
                have K20 := K19.trans (Kept.trans ((Below.refl _ u19).drew) hu20)
                clear x1 x2 y1
                go_wp2_with fail
                go_roundw
                case rel => exact ⟨k + 1, by go_num, by rw [HSum.out, Int.natCast_add], by omega, K20⟩
                case measure => simp [intOf]; omega
              · have t0 : ((nk : Int) == 0) = false := by simpa using h0
                have t0' : ((nk : Int) != 0) = true := by simpa using h0
                obtain ⟨hs1, hs2⟩ := HSt.out h2 h0
                have hD2 : Hid (∀ u, Kept u19.drew u → Calls Try.prog 13 #[.agg #[.slice la rs.length lc], .int .i64 ba] u fun e w' => e = .returned (.int .i64 (nk : Int)) ∧ Kept u w') := fun u hu => by
                  have := impl_KindAt_ok u _ lc rs ba (jIt.kept (K19.trans (Kept.trans ((Below.refl _ u19).drew) hu))) hrL
                  rw [hs1] at this
                  exact this
                have hD3 : Hid (∀ u, Kept u19.drew u → Calls Try.prog 14 #[.agg #[.slice la rs.length lc], .int .i64 ba] u fun e w' => e = .returned (.int .i64 (ns : Int)) ∧ Kept u w') := fun u hu => by
                  have := impl_SizeAt_ok u _ lc rs ba (jIt.kept (K19.trans (Kept.trans ((Below.refl _ u19).drew) hu))) hrL
                  rw [hs2] at this
                  exact this
                have hD4 : Hid (∀ u, Kept u19.drew u → Calls Try.prog 14 #[.agg #[.slice ao zs.length cp], .int .i64 ba] u fun e w' => e = .returned (.int .i64 (ns : Int)) ∧ Kept u w') := fun u hu => by
                  have := impl_SizeAt_ok u _ cp zs ba (jIs.kept (K19.trans (Kept.trans ((Below.refl _ u19).drew) hu))) hL
                  rw [HZa.out] at this
                  exact this
                clear h2 h0 hs1 hs2
                refine wp_region_seqL (by kernel_rfl) (by kernel_rfl) ?_
                repeat (first
                  | (refine SeqL.skip (by rfl) ?_; simp only [Act.put, List.setIfInBounds_toArray, List.set_cons_zero, List.set_cons_succ])
                  | (refine SeqL.pure ?_ (by rfl) ?_ ?_; rotate_left; (focus (intro u hu; have x1' := x1 u hu; have x2' := x2 u hu; have y1' := y1 u hu; go_simp; first | done | exact rfl)); simp only [Act.put, List.setIfInBounds_toArray, List.set_cons_zero, List.set_cons_succ])
                  | (refine SeqL.call _ _ _ (by rfl) ?_ hD1.out ?_; (focus (intro u; go_simp; done)); simp only [Act.put, List.setIfInBounds_toArray, List.set_cons_zero, List.set_cons_succ])
                  | (refine SeqL.call _ _ _ (by rfl) ?_ hD2.out ?_; (focus (intro u; go_simp; done)); simp only [Act.put, List.setIfInBounds_toArray, List.set_cons_zero, List.set_cons_succ])
                  | (refine SeqL.call _ _ _ (by rfl) ?_ hD3.out ?_; (focus (intro u; go_simp; done)); simp only [Act.put, List.setIfInBounds_toArray, List.set_cons_zero, List.set_cons_succ])
                  | (refine SeqL.call _ _ _ (by rfl) ?_ hD4.out ?_; (focus (intro u; go_simp; done)); simp only [Act.put, List.setIfInBounds_toArray, List.set_cons_zero, List.set_cons_succ]))
                refine SeqL.nil ?_
                intro u20 hu20
                have K20 := K19.trans (Kept.trans ((Below.refl _ u19).drew) hu20)
                clear x1 x2 y1
                go_wp2_with fail
                go_roundw
                case rel => exact ⟨k + 1, by go_num, by rw [HSum.out, Int.natCast_add], by omega, K20⟩
                case measure => simp [intOf]; omega
          · have hSe := HS.out _ hK
            rw [HO.out] at hSe
            have hTe := fun (u : World) (hu : Kept W13 u) => HT.out u hu
            rw [HG.out.1] at hTe
            have HTe : Hid _ := hTe
            have cs := (ys.kept hK).cell 0
            have esm : ((sm : Int) == (zs.length : Int)) = true := by
              have h1 := HSA'.out
              have h2 : (blocks zs).take k = blocks zs := List.take_of_length_le (by have := HM.out; omega)
              rw [h2] at hsm
              simp; omega
            clear hTe hsm
            go_wp2_with fail
            refine hSe.mono ?_
            rintro e w20 ⟨rfl, hk20⟩
            have cs2 := (ys.kept (hK.trans hk20)).cell 0
            have ct2 := (xt.kept (hK.trans hk20)).cell 0
            go_wp2_with fail
            refine (HTe.out _ (hK.trans hk20)).mono ?_
            rintro e w21 ⟨rfl, hk21⟩
            go_wp2
            go_ret
            exact ⟨rfl, ((jK.trans hK).trans hk20).trans hk21⟩

set_option maxRecDepth 100000 in
theorem lifted (os : Os) (started : os.Started) (H : Type) (enc : TypeId × Value → H) :
    ReturnsInHanded {} Try.checked os 4 .any (Rows.fnGivenSpec.pre6 enc Try.prog Try.f4 Rows.fnGivenRow.domain false) (Rows.fnGivenSpec.post enc Try.prog Try.f4 false true false false) := by
  refine returnsInHanded_of_change (C := Try.checked) own started (by kernel_rfl) Try.func4
    (ChangeSpec.witness6 (enc := enc) (C := Try.checked) false ⟨#[], #[.slice none 0 0], []⟩ 8 (by kernel_rfl) (by kernel_rfl) (by kernel_rfl) (by kernel_rfl)) ?_
  intro W base args ds gs before hval0 hW hcnd _
  have hval : ∀ (j : Nat) t v, Try.f4.params[j]? = some t → args[j]? = some v → Value.okWide Try.prog W .any base t v := hval0
  have hW' := hW
  obtain ⟨p, q, hA0, hV, rfl, hfz, hnd⟩ := hW
  have hA : DataW.TrodAll enc Try.prog W 0 (fun _ => true) true Try.f4.params.toList args.toList ds p := hA0
  rw [Try.params4] at hA hval
  obtain ⟨v0, vs0, d0, ds0, p0, q0, hargs, rfl, rfl, h0, r0⟩ := trodAll_cons hA
  obtain ⟨rfl, rfl, rfl⟩ := trodAll_nil r0
  obtain rfl : args = #[v0] := by cases args; simp_all
  obtain ⟨rfl, rfl⟩ := trodVars_none hV
  obtain ⟨a0, len0, cap0, rfl⟩ := okWide_slice Try.underlying22 (hval 0 22 v0 rfl rfl)
  have k0 := h0
  have lt0 : ∀ x ∈ p0, x.block < W.heap.size := by obtain ⟨m, hm⟩ := k0; exact DataW.trod_lt m _ _ _ hm
  obtain ⟨z0, w0⟩ : ∃ zs, IsRow .u8 W a0 len0 cap0 zs := by
    obtain ⟨fuel, hf⟩ := h0
    rcases open_ints Try.underlying22 Try.underlying5 (by kernel_rfl) hf with ⟨hcs, _⟩ | ⟨x, l, c, zs, hcs, _, hl, hm, hz, _, hcell, hwz⟩
    · simp [Value.cells] at hcs
      obtain ⟨rfl, rfl, rfl⟩ := hcs
      exact ⟨[], .inl ⟨rfl, rfl, rfl, rfl⟩⟩
    · simp [Value.cells] at hcs
      obtain ⟨rfl, rfl, rfl⟩ := hcs
      exact ⟨zs, .inr ⟨_, rfl, hl, hm, by simpa using hz, hcell, hwz⟩⟩
  clear hA0 hval0
  refine (walk a0 len0 cap0 z0 W w0).mono fun e W' ⟨he, bel⟩ => ?_
  subst he
  exact ⟨_, rfl, _, _, _, [], _, [], hW', trodAll_mk1 (shut_bool Try.underlying4 _), (trodAll_cons_mk (Below.trod laidOut (by kernel_rfl) (of_decide_eq_true (by kernel_rfl)) k0 bel lt0) trodAll_mk0), rfl, bel.frame _, fun h => by cases h⟩

theorem over : Rows.fnGivenRow.holds Try.pinned (OpenSpec.ofChange Rows.fnGivenSpec) :=
  OpenClaim.holds_of_wide 4 Try.f4 rfl rfl rfl rfl rfl rfl rfl ⟨rfl, rfl, rfl, rfl, rfl⟩ rfl rfl rfl rfl rfl (by kernel_rfl) Try.func4 (by kernel_rfl)
    (of_decide_eq_true (by kernel_rfl)) (by unfold Func.isWrapper; first | (rw [if_pos (by decide +kernel)]; kernel_rfl) | (rw [if_neg (by decide +kernel)]; exact ⟨rfl, rfl⟩))
    (fun os started H enc _ => lifted os started H enc)

theorem proved : Rows.FnGivenSaid := over
#print axioms proved
end Go.Proofs.Ytaclgpkcdbikhaa.fnGiven
