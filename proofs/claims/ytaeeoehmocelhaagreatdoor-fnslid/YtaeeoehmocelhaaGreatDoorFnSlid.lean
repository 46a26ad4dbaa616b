/-
  The law FnSlid is proved: for every slice of bytes, the heap that is drawn of it is slid as its model has it: what was taken lies in order, one behind the other, where Forward tells, the values go along, and what is seen of it is the same; where the values are not right nothing is slid; nothing that was there is written.
-/
import Derived.Test.YtaeeoehmocelhaaGreatDoorRows
import Derived.Test.YtaeeoehmocelhaaGreatDoorCards
import Derived.Test.YtaeeoehmocelhaaGreatDoorTie
import Derived.ChangeVars
import Derived.Stop.Joined
import Derived.SevenTiedAt
import Derived.Deep.AppendLies
import Derived.Deep.RegionWith
import Derived.Deep.CutRange
import Derived.Test.YtaeeoehmocelhaaGreatDoorGrpA
import Derived.Test.YtaeeoehmocelhaaGreatDoorGrpN
import Derived.Test.YtaeeoehmocelhaaGreatDoorGrpJ
import Derived.Test.YtaeeoehmocelhaaGreatDoorGrpO
import Derived.Test.YtaeeoehmocelhaaGreatDoorGrpQ
import Derived.Test.YtaeeoehmocelhaaGreatDoorGrpP
import Derived.Test.YtaeeoehmocelhaaGreatDoorGrpR
import Derived.Test.YtaeeoehmocelhaaGreatDoorGrpT
namespace Go.Proofs.YtaeeoehmocelhaaGreatDoor.fnSlid
open Go.ChangeShapes Go.WideShapes Go.ChangeAt Go.RowKit
set_option linter.unusedVariables false

theorem own : ownKnob Tryz.prog.godebug = none := by kernel_rfl

theorem fwdL_le (zs : List Int) : (fwdL zs).length ≤ zs.length := by
  unfold fwdL
  split
  · rw [List.length_map]
    have h1 := List.length_filter_le (fun b : BkOf zs.length => !decide (b.1.kind = 0)) (blocks zs)
    have h2 := blocks_count zs
    have h3 : (tkL (blocks zs)).length ≤ (blocks zs).length := h1
    omega
  · simp
theorem places_le (zs : List Int) : (places zs).length ≤ zs.length := by
  by_cases hok : slabOk zs = true
  · rw [places_len hok]
    have := blocks_count zs
    omega
  · simp [places, hok]
theorem slideC_le (zs rs : List Int) : (slideC zs rs).1.length ≤ zs.length ∧ (slideC zs rs).2.length ≤ rs.length := by
  unfold slideC
  split
  · simp [slidL_len]
  · simp
theorem slid_facts {zs rs : List Int} (h : rootsR zs rs = true) : (slideC zs rs).1.length = zs.length ∧ keptL (slideC zs rs).1 (places (slideC zs rs).1).length = fwdL zs ∧ (slideC zs rs).2.length = rs.length ∧ (∀ k, k < rs.length → movedC zs (hz rs k) = hz (slideC zs rs).2 k) ∧ sightR zs rs (slideC zs rs).1 (slideC zs rs).2 = true ∧ fwdL (slideC zs rs).1 = fwdL zs := by
  have hh : heapR zs = true := by
    have h' := h
    unfold rootsR at h'
    rw [Bool.and_eq_true] at h'
    exact h'.1
  have e : slideC zs rs = (slidL zs, rs.map (movV zs)) := if_pos h
  rw [e]
  refine ⟨slidL_len, kept_slid hh, by simp, fun k hk => ?_, sight_slid h, fwd_slid hh⟩
  have hm := roots_mov h _ (hz_mem hk)
  rw [show movedC zs (hz rs k) = movdV zs (hz rs k) from if_pos hh, hm]
  simp [hz, hk]
theorem slid_none {zs rs : List Int} (h : rootsR zs rs = false) : (slideC zs rs).1 = [] ∧ (slideC zs rs).2 = [] := by
  have e : slideC zs rs = ([], []) := if_neg (by rw [h]; simp)
  rw [e]
  exact ⟨rfl, rfl⟩
theorem own_ints {W : World} {base c : Nat} {ao : Option Addr} {l : List Int} (h : OwnL W base (.slice ao l.length c) l) : Ints W ao l := by
  obtain ⟨_, _, e, hi⟩ := h.ints
  cases e
  exact hi
set_option maxRecDepth 100000 in
set_option maxHeartbeats 64000000 in
theorem walk (w : World) (hT : Tab w) (a0 : Option Addr) (len0 cap0 : Nat) (z0 : List Int) (w0 : (a0 = none ∧ len0 = 0 ∧ cap0 = 0 ∧ z0 = []) ∨ ∃ x, a0 = some x ∧ len0 ≤ cap0 ∧ cap0 ≤ maxLen ∧ z0.length = cap0 ∧ (∀ i, i < z0.length → w.cell? (x.add i) = some (.int .u8 (z0.getD i 0))) ∧ ∀ n ∈ z0, (Lit.int .u8 n).wf = true) :
    Calls Tryz.prog 3 #[.slice a0 len0 cap0] w fun e w' => e = .returned (.bool true) ∧ Kept w w' := by
  obtain ⟨i0, hi, hz0, hz1, hz2⟩ := info_parts infoI
  have hs := src_of w0
  clear w0
  have hlen := hs.1
  by_cases hbig : (1048576 : Int) < (len0 : Int)
  · go_enter Tryz.func3, Tryz.ntmps3
    go_wp2_with (first | (go_at_call 5; go_in))
    go_ret
    exact ⟨rfl, Below.refl _ _⟩
  · have hD := DrawSlide_ok a0 len0 cap0 _ _ hs
    go_enter Tryz.func3, Tryz.ntmps3
    go_wp2_with (first | (go_at_call 5; go_in))
    refine hD.mono ?_
    rintro e w1 ⟨v, zs, rv, rs, rfl, hO, hl, hR, hrl, hK1⟩
    obtain ⟨ao, cp, rfl, hI, _, hcp⟩ := hO
    obtain ⟨ro, rp, rfl, hIr, _, hrp⟩ := hR
    have hl' : zs.length ≤ 1048576 := by omega
    have hr' : rs.length ≤ 1048576 := by omega
    have hle := slideC_le zs rs
    have hfl := fwdL_le zs
    have hImp := fun (u : World) (hu : Ints u ao zs) (hr : Ints u ro rs) => impl_Slide_ok u ao ro cp rp zs rs hu hcp hl' hr hr'
    have hSp := fun (u : World) (hu : Ints u ao zs) (hr : Ints u ro rs) => spec_Slide_ok u ao ro cp rp zs rs hu hl' hr hr'
    have hFi := fun (u : World) (hu : Ints u ao zs) => impl_Forward_ok u ao cp zs hu hl'
    have hFs := fun (u : World) (hu : Ints u ao zs) => spec_Forward_ok u ao cp zs hu hl'
    have hRo := fun (u : World) (hu : Ints u ao zs) (hr : Ints u ro rs) => spec_RootsOk_ok u ao ro cp rp zs rs hu hl' hr hr'
    obtain ⟨ws, hws⟩ : ∃ x, (slideC zs rs).1 = x := ⟨_, rfl⟩
    obtain ⟨rr, hrr⟩ : ∃ x, (slideC zs rs).2 = x := ⟨_, rfl⟩
    obtain ⟨fl, hfl0⟩ : ∃ x, fwdL zs = x := ⟨_, rfl⟩
    obtain ⟨ok, hok⟩ : ∃ x, rootsR zs rs = x := ⟨_, rfl⟩
    have HC : Hid ((ok = false → ws = [] ∧ rr = []) ∧ (ok = true → ws.length = zs.length ∧ keptL ws (places ws).length = fl ∧ rr.length = rs.length ∧ (∀ k, k < rs.length → movedC zs (hz rs k) = hz rr k) ∧ sightR zs rs ws rr = true ∧ fwdL ws = fl)) := by
      refine ⟨fun h => ?_, fun h => ?_⟩
      · rw [← hws, ← hrr]
        exact slid_none (hok.trans h)
      · rw [← hws, ← hrr, ← hfl0]
        exact slid_facts (hok.trans h)
    rw [hws, hrr] at hle
    rw [hfl0] at hfl
    simp only [hws, hrr] at hImp hSp
    simp only [hfl0] at hFi hFs
    simp only [hok] at hRo
    have hwl : ws.length ≤ 1048576 := by omega
    have hrrl : rr.length ≤ 1048576 := by omega
    have hfl' : fl.length ≤ 1048576 := by omega
    have HSp : Hid _ := hSp
    have HFi : Hid _ := hFi
    have HFs : Hid _ := hFs
    have HRo : Hid _ := hRo
    have ka : Kept w1 (w1.alloc (.cells #[.slice ao zs.length cp] 26)) := Kept.alloc (Below.refl _ _) _
    have x3 := Cells.new w1 26 #[.slice ao zs.length cp]
    have hIa := hI.kept ka
    have hRa := hIr.kept ka
    have hKa := hK1.trans ka
    have hH1 := hImp _ hIa hRa
    clear hws hrr hfl0 hok hD ka hI hIr hK1 hImp hSp hFi hFs hRo
    go_wp2_with fail
    refine hH1.mono ?_
    rintro e w2 ⟨v2, r2, rfl, o2, p2, _, hk2⟩
    obtain ⟨ta, tc, rfl, hT2⟩ := o2.ints
    obtain ⟨ma, mc, rfl, hM2⟩ := p2.ints
    have kb : Kept w2 (w2.alloc (.cells #[.slice ta ws.length tc] 26)) := Kept.alloc (Below.refl _ _) _
    have x5 := Cells.new w2 26 #[.slice ta ws.length tc]
    have y3 := (x3.kept hk2).kept kb
    have hIb := (hIa.kept hk2).kept kb
    have hRb := (hRa.kept hk2).kept kb
    have hTb := hT2.kept kb
    have hMb := hM2.kept kb
    have hKb := (hKa.trans hk2).trans kb
    have c3 := y3.cell 0
    have hH2 := HSp.out _ hIb hRb
    clear hH1 HSp o2 p2 hT2 hM2 kb hk2 x3 hIa hRa hKa
    go_wp2_with fail
    refine hH2.mono ?_
    rintro e w3 ⟨v3, r3, rfl, o3, p3, hk3⟩
    obtain ⟨ua, uc, rfl, hU3⟩ := o3.ints
    obtain ⟨na, nc, rfl, hN3⟩ := p3.ints
    have kc : Kept w3 (w3.alloc (.cells #[.slice ua ws.length uc] 26)) := Kept.alloc (Below.refl _ _) _
    have z7 := Cells.new w3 26 #[.slice ua ws.length uc]
    have z3 := (y3.kept hk3).kept kc
    have z5 := (x5.kept hk3).kept kc
    have hIc := (hIb.kept hk3).kept kc
    have hRc := (hRb.kept hk3).kept kc
    have hTc := (hTb.kept hk3).kept kc
    have hMc := (hMb.kept hk3).kept kc
    have hUc := hU3.kept kc
    have hNc := hN3.kept kc
    have K3 := (hKb.trans hk3).trans kc
    clear hH2 c3 o3 p3 hU3 hN3 kc hk3 y3 x5 hIb hRb hTb hMb hKb
    go_upto_region 6 with (fail)
    obtain ⟨W, hW⟩ : ∃ W, w3.alloc (.cells #[.slice ua ws.length uc] 26) = W := ⟨_, rfl⟩
    obtain ⟨B3, hB3⟩ : ∃ B, w1.heap.size = B := ⟨_, rfl⟩
    obtain ⟨B5, hB5⟩ : ∃ B, w2.heap.size = B := ⟨_, rfl⟩
    obtain ⟨B7, hB7⟩ : ∃ B, w3.heap.size = B := ⟨_, rfl⟩
    rw [hW] at z7 z3 z5 hIc hRc hTc hMc hUc hNc K3
    rw [hB3] at z3
    rw [hB5] at z5
    rw [hB7] at z7
    simp only [hW, hB3, hB5, hB7]
    clear hW hB3 hB5 hB7
    have HS : Hid (∀ u, Kept W u → u.cell? ⟨B3, 0, none⟩ = some (.slice ao zs.length cp) ∧ u.cell? ⟨B5, 0, none⟩ = some (.slice ta ws.length tc) ∧ u.cell? ⟨B7, 0, none⟩ = some (.slice ua ws.length uc)) := fun u hu => ⟨(z3.kept hu).cell 0, (z5.kept hu).cell 0, (z7.kept hu).cell 0⟩
    have HI : Hid (∀ u, Kept W u → (Ints u ao zs ∧ Ints u ro rs) ∧ (Ints u ta ws ∧ Ints u ma rr) ∧ Ints u ua ws ∧ Ints u na rr) := fun u hu => ⟨⟨hIc.kept hu, hRc.kept hu⟩, ⟨hTc.kept hu, hMc.kept hu⟩, hUc.kept hu, hNc.kept hu⟩
    clear z3 z5 z7 hIc hRc hTc hMc hUc hNc
    go_cut [53] from 34 to 52 (fun s53 wx => s53 = .bool false ∧ Kept W wx)
    case first =>
      have kd : Kept W W.drew := (Below.refl _ W).drew
      have H0 := HS.out _ kd
      go_region_held3 (fun u => u.cell? ⟨B3, 0, none⟩ = some (.slice ao zs.length cp) ∧ u.cell? ⟨B5, 0, none⟩ = some (.slice ta ws.length tc) ∧ u.cell? ⟨B7, 0, none⟩ = some (.slice ua ws.length uc))
        (first | exact HS.out _ (by assumption) | go_keep)
        ((first
            | (have g8 := kq7; go_at_call 9; refine (sameInts_ok _ fa ga fc gc fl j6 i7 hfl').mono ?_; rintro e w8 ⟨rfl, hk8⟩; have kq8 : Kept W w8 := kq7.trans hk8)
            | (have g7 := kq6; go_at_call 11; refine (HFs.out _ (HI.out _ kq6).1.1).mono ?_; rintro e w7 ⟨v7, rfl, o7, hk7⟩; obtain ⟨ga, gc, rfl, i7⟩ := o7.ints; have kq7 : Kept W w7 := kq6.trans hk7; have j6 := i6.kept hk7)
            | (have g6 := kq5; go_at_call 10; refine (HFi.out _ (HI.out _ kq5).1.1).mono ?_; rintro e w6 ⟨v6, rfl, o6, hk6⟩; obtain ⟨fa, fc, rfl, i6⟩ := o6.ints; have kq6 : Kept W w6 := kq5.trans hk6)
            | (have g5 := kq4; go_at_call 9; refine (sameInts_ok _ ma na mc nc rr (HI.out _ kq4).2.1.2 (HI.out _ kq4).2.2.2 hrrl).mono ?_; rintro e w5 ⟨rfl, hk5⟩; have kq5 : Kept W w5 := kq4.trans hk5)
            | (go_at_call 9; refine (sameInts_ok _ ta ua tc uc ws (HI.out _ kd).2.1.1 (HI.out _ kd).2.2.1 hwl).mono ?_; rintro e w4 ⟨rfl, hk4⟩; have kq4 : Kept W w4 := kd.trans hk4)))
      all_goals (go_wp2_with fail; go_meet; exact ⟨rfl, kq8⟩)
    case rest =>
    obtain ⟨rfl, kc⟩ := hcut
    obtain ⟨w7, hw7⟩ : ∃ x, x = wc := ⟨_, rfl⟩
    subst hw7
    have K7 := K3.trans kc
    have hD2 := DrawMoved_ok a0 len0 cap0 _ _ (hs.below K7)
    go_wp2_with fail
    refine hD2.mono ?_
    rintro e w8 ⟨v8, z8, x, rfl, hO8, hl8, hx, hk8⟩
    obtain ⟨ao8, cp8, rfl, hI8, _, _⟩ := hO8
    have kb : Kept w8 (w8.alloc (.cells #[.slice ao8 z8.length cp8] 26)) := Kept.alloc (Below.refl _ _) _
    have t9 := Cells.new w8 26 #[.slice ao8 z8.length cp8]
    have hI9 := hI8.kept kb
    have k9 := (kc.trans hk8).trans kb
    have HM1 := fun (u : World) (hu : Ints u ao8 z8) => impl_Moved_ok u ao8 cp8 z8 x hu (by omega) hx
    have HM2 := fun (u : World) (hu : Ints u ao8 z8) => spec_Moved_ok u ao8 cp8 z8 x hu (by omega) hx
    obtain ⟨m, hm⟩ : ∃ m, movedC z8 x = m := ⟨_, rfl⟩
    simp only [hm] at HM1 HM2
    have HHM1 : Hid _ := HM1
    have HHM2 : Hid _ := HM2
    clear hD2 hI8 hk8 kb hm HM1 HM2 kc K7
    go_upto_region 9 with (fail)
    obtain ⟨W9, hW9⟩ : ∃ W, w8.alloc (.cells #[.slice ao8 z8.length cp8] 26) = W := ⟨_, rfl⟩
    obtain ⟨B9, hB9⟩ : ∃ B, w8.heap.size = B := ⟨_, rfl⟩
    rw [hW9] at t9 hI9 k9
    rw [hB9] at t9
    simp only [hW9, hB9]
    clear hW9 hB9
    go_cut [65] from 59 to 64 (fun s65 wx => s65 = .bool false ∧ Kept W9 wx)
    case first =>
      have kd : Kept W9 W9.drew := (Below.refl _ W9).drew
      have HS9 : Hid (∀ u, Kept W9 u → u.cell? ⟨B9, 0, none⟩ = some (.slice ao8 z8.length cp8)) := fun u hu => (t9.kept hu).cell 0
      have H0 := HS9.out _ kd
      have hne : (m != m) = false := by simp
      go_region_held3 (fun u => u.cell? ⟨B9, 0, none⟩ = some (.slice ao8 z8.length cp8))
        (first | exact HS9.out _ (by assumption) | go_keep)
        ((first
            | (go_at_call 13; refine (HHM1.out _ (hI9.kept kd)).mono ?_; rintro e w3 ⟨rfl, hk3⟩; have kq3 : Kept W9 w3 := kd.trans hk3)
            | (go_at_call 14; refine (HHM2.out _ (hI9.kept kq3)).mono ?_; rintro e w4 ⟨rfl, hk4⟩; have kq4 : Kept W9 w4 := kq3.trans hk4)))
      all_goals (go_wp2_with fail; go_meet; exact ⟨rfl, kq4⟩)
    case rest =>
    obtain ⟨rfl, kc⟩ := hcut
    obtain ⟨w10, hw10⟩ : ∃ x, x = wc := ⟨_, rfl⟩
    subst hw10
    have kW := k9.trans kc
    clear t9 hI9 k9 kc HHM1 HHM2 hx hl8
    obtain ⟨h3c, h5c, h7c⟩ := HS.out _ kW
    have hRt := HRo.out _ (HI.out _ kW).1.1 (HI.out _ kW).1.2
    cases ok with
    | false =>
      obtain ⟨e1, e2⟩ := HC.out.1 rfl
      subst e1
      subst e2
      go_wp2_with (first | (go_at_call 15; refine hRt.mono ?_; rintro e w11 ⟨rfl, hk11⟩; obtain ⟨d3c, d5c, d7c⟩ := HS.out _ (kW.trans hk11)))
      go_ret
      exact ⟨rfl, (K3.trans kW).trans hk11⟩
    | true =>
      have HC2 : Hid _ := HC.out.2 rfl
      clear HC
      go_wp2_with fail
      refine hRt.mono ?_
      rintro e w11 ⟨rfl, hk11⟩
      have k11 := kW.trans hk11
      have hsz11 := k11.size
      have ke : Kept w11 (w11.alloc (.cells #[] 3)) := Kept.alloc (Below.refl _ _) _
      have kE := k11.trans ke
      have o0 : OwnL (w11.alloc (.cells #[] 3)) w11.heap.size (.slice (some ⟨w11.heap.size, 0, none⟩) 0 0) [] := by
        have := World.ownsRow_made (base := w11.heap.size) (e := 3) (size := 1) w11 #[] 0 (by simp) (by unfold maxLen; omega) (by simp)
        exact ⟨by simp, by simpa using this⟩
      obtain ⟨d3c, d5c, d7c⟩ := HS.out _ kE
      have hB := impl_Blocks_ok _ ta tc ws (HI.out _ kE).2.1.1 (by omega)
      have hpl := places_le ws
      clear hRt h3c h5c h7c hk11 ke HRo
      go_wp2_with fail
      refine hB.mono ?_
      rintro e w12 ⟨v12, rfl, ho, hk12⟩
      obtain ⟨la, lc, rfl, _⟩ := ho.ints
      have k12 := kE.trans hk12
      have o2 := o0.kept (row := none) hk12.grown (fun _ e => by cases e)
      have hs2 := hk12.size
      simp only [World.size_alloc] at hs2 ho
      obtain ⟨G, hG⟩ : ∃ G, w11.heap.size = G := ⟨_, rfl⟩
      rw [hG] at ho o2 hs2 hsz11
      simp only [hG]
      have HP : Hid (OwnL w12 (G + 1) (.slice la (places ws).length lc) (places ws)) := ho
      have HO2 : Hid _ := o2
      have HK2 : Hid (Kept W w12) := k12
      clear hB o0 o2 hk12 kE k12 ho hG d3c d5c d7c k11 kW
      go_wp2_with fail
      go_loopw [11, 13] (fun ov iv wr => ∃ (k : Nat), iv = .int .i64 k ∧ k ≤ (places ws).length ∧ Hid (OwnL wr G ov (keptL ws k)) ∧ Hid (∀ j, ov.ownBlock = some j → j = G ∨ w12.heap.size ≤ j) ∧ Hid (Keeps G w12 wr)) (fun _ i _ => (places ws).length - (intOf i).toNat)
      case atStart => exact ⟨0, rfl, Nat.zero_le _, by rw [show keptL ws 0 = [] from by simp [keptL]]; exact HO2.out, fun j e => by simp [Value.ownBlock] at e; omega, Keeps.refl _ _⟩
      case round =>
        obtain ⟨k, rfl, hk, HO, HA, HK⟩ := hrel
        clear HO2
        have KW : Kept W wr := Below.trans HK2.out (HK.out.below (by omega) HK2.out.size)
        by_cases hlt : k < (places ws).length
        · have hlt' : (k : Int) < ((places ws).length : Int) := by omega
          have hj0 : (0 : Int) ≤ (k : Int) := by omega
          obtain ⟨x0, hx0⟩ : ∃ x, hz (places ws) k = x := ⟨_, rfl⟩
          have hxb := HP.out.1 x0 (by rw [← hx0]; exact hz_mem hlt)
          have hfn := keptL_next hlt
          rw [hx0] at hfn
          have HB : Hid (∀ u, Keeps G w12 u → u.cell? ⟨B5, 0, none⟩ = some (.slice ta ws.length tc) ∧ ∃ pb po, la = some ⟨pb, po, none⟩ ∧ u.cell? ⟨pb, po + k, none⟩ = some (.int .i64 x0)) := fun u hu => by
            have hPA := HP.out.turned hu (by omega)
            obtain ⟨_, _, ePA, hPI⟩ := hPA.ints
            cases ePA
            obtain ⟨pb, po, e1, hpc⟩ := hPI.at hlt
            have h1 := hpc k hlt
            rw [hx0] at h1
            exact ⟨(HS.out u (Below.trans HK2.out (hu.below (by omega) HK2.out.size))).2.1, pb, po, e1, h1⟩
          obtain ⟨_, pb, po, rfl, _⟩ := HB.out wr HK.out
          have HCc : Hid (∀ u, Keeps G w12 u → u.cell? ⟨B5, 0, none⟩ = some (.slice ta ws.length tc) ∧ u.cell? ⟨pb, po + k, none⟩ = some (.int .i64 x0)) := fun u hu => by
            obtain ⟨h1, _, _, e1, h2⟩ := HB.out u hu
            cases e1
            exact ⟨h1, h2⟩
          have kd3 : Kept wr wr.drew := (Below.refl _ wr).drew
          have HKn : Hid (∀ u : World, Kept wr.drew u → Calls Tryz.prog 17 #[.agg #[.slice ta ws.length tc], .int .i64 x0] u fun e w' => e = .returned (.int .i64 (kindAt ws x0)) ∧ Kept u w') := fun u hu => impl_KindAt_ok u ta tc ws x0 (HI.out u (KW.trans (kd3.trans hu))).2.1.1 (by omega)
          obtain ⟨kk, hkk⟩ : ∃ kk, kindAt ws x0 = kk := ⟨_, rfl⟩
          rw [hkk] at hfn HKn
          have hkl := keptL_len ws k
          clear HB hx0 hkk
          go_wp2_with fail
          refine wp_region_seqL (by kernel_rfl) (by kernel_rfl) ?_
          repeat (first
            | (refine SeqL.pure ?_ (by rfl) ?_ ?_; rotate_left; (focus (intro u hu; obtain ⟨z0, z1⟩ := HCc.out u (HK.out.trans (Kept.keeps (kd3.trans hu) _)); go_simp; first | done | exact rfl)); simp only [Act.put, List.setIfInBounds_toArray, List.set_cons_zero, List.set_cons_succ])
            | (refine SeqL.call _ _ _ (by rfl) ?_ HKn.out ?_; (focus (intro u; go_simp; done)); simp only [Act.put, List.setIfInBounds_toArray, List.set_cons_zero, List.set_cons_succ]))
          refine SeqL.nil ?_
          intro w4 hk4
          have k4 : Kept wr w4 := kd3.trans hk4
          clear HKn hk4 kd3
          by_cases hz8 : kk = 0
          · have hd : (kk != 0) = false := by simp [hz8]
            rw [if_pos hz8, List.append_nil] at hfn
            have HN1 : Hid (keptL ws (k + 1) = keptL ws k) := hfn
            clear hz8 hfn
            go_wp2_with fail
            go_roundw
            case rel => exact ⟨k + 1, by go_num, by omega, by rw [HN1.out]; exact HO.out.kept (row := none) k4.grown (fun _ e => by cases e), HA.out, HK.out.trans (k4.keeps _)⟩
            case measure => simp [intOf]; omega
          · have hd : (kk != 0) = true := by simpa using hz8
            rw [if_neg hz8] at hfn
            have HN1 : Hid (keptL ws (k + 1) = keptL ws k ++ [x0]) := hfn
            have O4 : Hid _ := HO.out.kept (row := none) k4.grown (fun _ e => by cases e)
            have hws4 := k4.size
            have hws3 := HK.out.size
            obtain ⟨_, c4⟩ := HCc.out w4 (HK.out.trans (k4.keeps _))
            clear hz8 hfn
            go_wp2_with (at_builtin; refine wpList_append_lies _ rfl _ _ 24 rfl G 3 i0 (.int .i64 0) 1 8 Tryz.underlying24 hi hz0 hz1 hz2 rfl (by decide) _ _ _ rfl (O4.out.2.alloc _) ⟨w4.heap.size, 0, none⟩ 1 1 [.int .i64 x0] rfl rfl (cell_one_new _ _ _) (by simp [Value.oneCell']) (by omega) (by unfold maxLen; omega) (by omega) (by simp; omega) (w4.heap.size + 1) (by simp) ?_; intro gg cg w5 hown hgrow hat hlt5)
            have K5 : Keeps G w12 w5 := ((HK.out.trans (k4.keeps _)).alloc _).on2 hgrow (fun j e => HA.out j e)
            have HA5 : Hid (∀ j, (Value.slice (some ⟨gg, 0, none⟩) ((keptL ws k).length + 1) cg).ownBlock = some j → j = G ∨ w12.heap.size ≤ j) := fun j e => by
              simp only [Value.ownBlock, Option.some.injEq] at e
              subst e
              rcases hat with h | h
              · exact HA.out _ h
              · omega
            have HO5 : Hid (OwnL w5 G (.slice (some ⟨gg, 0, none⟩) ((keptL ws k).length + 1) cg) (keptL ws (k + 1))) := by
              rw [Hid, HN1.out]
              refine ⟨fun z hz => ?_, by simpa using hown⟩
              rcases List.mem_append.1 hz with h | h
              · exact HO.out.1 z h
              · rw [List.mem_singleton.1 h]; exact hxb
            have HK5 : Hid _ := K5
            clear hown hgrow hat K5 O4
            go_roundw
            case rel => exact ⟨k + 1, by go_num, by omega, HO5, HA5, HK5⟩
            case measure => simp [intOf]; omega
        · obtain rfl : k = (places ws).length := by omega
          obtain ⟨hwz, hkl, hrz, hmv, hsi, hff⟩ := HC2.out
          have HOk := HO.out
          rw [hkl] at HOk
          obtain ⟨ka, kcap, rfl, hKi⟩ := HOk.ints
          have hSt := fun (u : World) (hA : Ints u ao zs) (hB : Ints u ta ws) (hR : Ints u ro rs) (hM : Ints u ma rr) (hu : Tab u) => impl_SameSight_ok u ao ta ro ma cp tc rp mc zs rs ws rr hA hB hR hM hl' hwl hr' hrrl hu
          have hFt := fun (u : World) (hu : Ints u ta ws) => impl_Forward_ok u ta tc ws hu hwl
          simp only [hsi] at hSt
          simp only [hff] at hFt
          have HSt : Hid _ := hSt
          have HFt : Hid _ := hFt
          have HMv : Hid _ := hmv
          have HWZ : Hid (ws.length = zs.length) := hwz
          have HKi : Hid (Ints wr ka fl) := hKi
          obtain ⟨w20, hw20⟩ : ∃ x, x = wr := ⟨_, rfl⟩
          subst hw20
          clear hkl hmv hsi hff hSt hFt HC2 HO HA HK HP HK2 hKi HOk hwz
          go_wp2_with fail
          go_loopw [14] (fun i wq => ∃ k : Nat, i = .int .i64 k ∧ k ≤ rs.length ∧ Hid (Kept w20 wq)) (fun i _ => rs.length - (intOf i).toNat)
          case atStart => exact ⟨0, rfl, Nat.zero_le _, Below.refl _ _⟩
          case round =>
            obtain ⟨k, rfl, hk2, HKq⟩ := hrel
            have KWq : Kept W wr := KW.trans HKq.out
            by_cases hlt : k < rs.length
            · obtain ⟨rb, rof, hro, hrc⟩ := (HI.out _ KWq).1.2.at hlt
              obtain ⟨mb, mof, hmo, hmc⟩ := (HI.out _ KWq).2.1.2.at (k := k) (by omega)
              have r1 := hrc k hlt
              have m1 := hmc k (by omega)
              have hxb := (HI.out _ KWq).1.2.1 _ (hz_mem hlt)
              have hmv1 := HMv.out k hlt
              obtain ⟨x1, hx1⟩ : ∃ x, hz rs k = x := ⟨_, rfl⟩
              obtain ⟨y1, hy1⟩ : ∃ y, hz rr k = y := ⟨_, rfl⟩
              rw [hx1] at r1 hxb hmv1
              rw [hy1] at m1 hmv1
              have hrb : rb < wr.heap.size := World.block_lt_of_cell? _ _ r1
              have hmb : mb < wr.heap.size := World.block_lt_of_cell? _ _ m1
              have HE : Hid (∀ u, Kept wr u → u.cell? ⟨B3, 0, none⟩ = some (.slice ao zs.length cp) ∧ u.cell? ⟨rb, rof + k, none⟩ = some (.int .i64 x1) ∧ u.cell? ⟨mb, mof + k, none⟩ = some (.int .i64 y1)) := fun u hu => ⟨(HS.out u (KWq.trans hu)).1, (hu.cell (p := ⟨rb, rof + k, none⟩) hrb).trans r1, (hu.cell (p := ⟨mb, mof + k, none⟩) hmb).trans m1⟩
              have kd3 : Kept wr wr.drew := (Below.refl _ wr).drew
              have HMo : Hid (∀ u : World, Kept wr.drew u → Calls Tryz.prog 13 #[.agg #[.slice ao zs.length cp], .int .i64 x1] u fun e w' => e = .returned (.int .i64 y1) ∧ Kept u w') := fun u hu => by
                have := impl_Moved_ok u ao cp zs x1 (HI.out u (KWq.trans (kd3.trans hu))).1.1 hl' hxb
                rwa [hmv1] at this
              have hne : (y1 != y1) = false := by simp
              have q0 : (0 : Int) ≤ (k : Int) := by omega
              have q1 : (k : Int) < (rs.length : Int) := by omega
              have q2 : (k : Int) < (rr.length : Int) := by omega
              subst hro
              subst hmo
              clear hrc hmc r1 m1 hx1 hy1 hmv1
              go_wp2_with fail
              refine wp_region_seqL (by kernel_rfl) (by kernel_rfl) ?_
              repeat (first
                | (refine SeqL.pure ?_ (by rfl) ?_ ?_; rotate_left; (focus (intro u hu; obtain ⟨z0, z1, z2⟩ := HE.out u (kd3.trans hu); go_simp; first | done | exact rfl)); simp only [Act.put, List.setIfInBounds_toArray, List.set_cons_zero, List.set_cons_succ])
                | (refine SeqL.call _ _ _ (by rfl) ?_ HMo.out ?_; (focus (intro u; go_simp; done)); simp only [Act.put, List.setIfInBounds_toArray, List.set_cons_zero, List.set_cons_succ]))
              refine SeqL.nil ?_
              intro w4 hk4
              go_wp2_with fail
              go_roundw
              case rel => exact ⟨k + 1, by go_num, by omega, HKq.out.trans (kd3.trans hk4)⟩
              case measure => simp [intOf]; omega
            · obtain rfl : k = rs.length := by omega
              have i20 := HKi.out.kept HKq.out
              obtain ⟨d3c, d5c, d7c⟩ := HS.out _ KWq
              clear HKi HMv KW
              go_wp2_with fail
              refine (HFi.out _ (HI.out _ KWq).1.1).mono ?_
              rintro e w21 ⟨v21, rfl, o21, hk21⟩
              obtain ⟨fa, fc, rfl, i21⟩ := o21.ints
              have kq21 : Kept W w21 := KWq.trans hk21
              have j20 := i20.kept hk21
              clear o21 d3c d5c d7c HFi i20
              go_wp2_with fail
              refine (sameInts_ok _ ka fa kcap fc fl j20 i21 hfl').mono ?_
              rintro e w22 ⟨rfl, hk22⟩
              have kq22 : Kept W w22 := kq21.trans hk22
              have j22 := j20.kept hk22
              obtain ⟨e3c, e5c, e7c⟩ := HS.out _ kq22
              have hSt := HSt.out _ (HI.out _ kq22).1.1 (HI.out _ kq22).2.1.1 (HI.out _ kq22).1.2 (HI.out _ kq22).2.1.2 (hT.kept (K3.trans kq22))
              rw [HWZ.out] at e5c hSt
              rw [hrz] at hSt
              clear j20 i21 HSt
              go_wp2_with fail
              refine hSt.mono ?_
              rintro e w23 ⟨rfl, hk23⟩
              have kq23 : Kept W w23 := kq22.trans hk23
              have j23 := j22.kept hk23
              clear e3c e5c e7c hSt j22
              obtain ⟨g3c, g5c, g7c⟩ := HS.out _ kq23
              go_wp2_with fail
              refine (HFt.out _ (HI.out _ kq23).2.1.1).mono ?_
              rintro e w24 ⟨v24, rfl, o24, hk24⟩
              obtain ⟨fb, fd, rfl, i24⟩ := o24.ints
              have kq24 : Kept W w24 := kq23.trans hk24
              have j24 := j23.kept hk24
              clear o24 g3c g5c g7c j23
              go_wp2_with fail
              refine (sameInts_ok _ fb ka fd kcap fl i24 j24 hfl').mono ?_
              rintro e w25 ⟨rfl, hk25⟩
              have kq25 : Kept W w25 := kq24.trans hk25
              go_wp2_with fail
              go_ret
              exact ⟨rfl, K3.trans kq25⟩

set_option maxRecDepth 100000 in
theorem lifted (os : Os) (started : os.Started) (H : Type) (enc : TypeId × Value → H) :
    ReturnsInHanded {} Tryz.checked os 3 .any (fun w args => (Rows.fnSlidSpec.pre enc Tryz.prog Tryz.f3 [] false w args ∧ laidMetH Tryz.prog Rows.fnSlidRow.laid w) ∧ sizedMet enc Tryz.prog Tryz.f3 (OpenSpec.ofChange Rows.fnSlidSpec) false w args)
      (Rows.fnSlidSpec.post enc Tryz.prog Tryz.f3 false true false false) := by
  refine returnsInHanded_of_change_and (C := Tryz.checked) (X := fun w _ => laidMetH Tryz.prog Rows.fnSlidRow.laid w) (fun _ _ _ hh h => h.of_heap hh) own started (by kernel_rfl) Tryz.func3
    (ChangeSpec.witness_at (enc := enc) (C := Tryz.checked) (os := os) (X := fun w _ => laidMetH Tryz.prog Rows.fnSlidRow.laid w) false (laidWorld os) #[.slice none 0 0] 8 rfl (by kernel_rfl) (by kernel_rfl) (by kernel_rfl) (by kernel_rfl) (by kernel_rfl) (laidWorld_met os _)) ?_
  intro W base args ds gs before hval0 hW _ _ hL _
  have hval : ∀ (j : Nat) t v, Tryz.f3.params[j]? = some t → args[j]? = some v → Value.okWide Tryz.prog W .any base t v := hval0
  have hW' := hW
  obtain ⟨p, q, hA0, hV, rfl, hfz, hnd⟩ := hW
  have hA : DataW.TrodAll enc Tryz.prog W 0 (fun _ => true) true Tryz.f3.params.toList args.toList ds p := hA0
  rw [Tryz.params3] at hA hval
  obtain ⟨v0, vs0, d0, ds0, p0, q0, hargs0, rfl, rfl, h0, r0⟩ := trodAll_cons hA
  obtain ⟨rfl, rfl, rfl⟩ := trodAll_nil r0
  obtain rfl : args = #[v0] := by cases args; simp_all
  obtain ⟨rfl, rfl⟩ := trodVars_none hV
  clear hA0 hval0
  simp only [List.append_nil] at hW'
  have hlt0 : ∀ x ∈ p0, x.block < W.heap.size := fun x hx => by simpa using hW'.lt x (by simp [hx])
  obtain ⟨a0, len0, cap0, rfl⟩ := okWide_slice Tryz.underlying22 (hval 0 22 v0 rfl rfl)
  obtain ⟨z0, w0⟩ : ∃ zs : List Int, (a0 = none ∧ len0 = 0 ∧ cap0 = 0 ∧ zs = []) ∨ ∃ x, a0 = some x ∧ len0 ≤ cap0 ∧ cap0 ≤ maxLen ∧ zs.length = cap0 ∧ (∀ i, i < zs.length → W.cell? (x.add i) = some (.int .u8 (zs.getD i 0))) ∧ ∀ n ∈ zs, (Lit.int .u8 n).wf = true := by
    obtain ⟨fuel, hf⟩ := h0
    rcases open_ints Tryz.underlying22 Tryz.underlying5 (by kernel_rfl) hf with ⟨hcs, _⟩ | ⟨x, l, c, zs, hcs, _, hl, hm, hz, _, hcell, hwz⟩
    · simp [Value.cells] at hcs
      obtain ⟨rfl, rfl, rfl⟩ := hcs
      exact ⟨[], .inl ⟨rfl, rfl, rfl, rfl⟩⟩
    · simp [Value.cells] at hcs
      obtain ⟨rfl, rfl, rfl⟩ := hcs
      exact ⟨zs, .inr ⟨_, rfl, hl, hm, by simpa using hz, hcell, hwz⟩⟩
  refine (walk W (tab_of_laid hL) a0 len0 cap0 z0 w0).mono fun e W' ⟨he, hk⟩ => ?_
  subst he
  refine ⟨_, rfl, _, _, _, [], p0 ++ [], [], hW', ?_, ?_, rfl, hk.frame _, fun h => by cases h⟩
  · exact trodAll_cons_mk (shut_bool Tryz.underlying4 _) trodAll_mk0
  · exact (trodAll_cons_mk (Below.trod laid (by kernel_rfl) (of_decide_eq_true (by kernel_rfl)) h0 hk hlt0) trodAll_mk0)

theorem over : Rows.fnSlidRow.holds Tryz.pinned (OpenSpec.ofChange Rows.fnSlidSpec) :=
  OpenClaim.holds_of_wide 3 Tryz.f3 rfl rfl rfl rfl rfl rfl rfl ⟨rfl, rfl, rfl, rfl, rfl⟩ rfl rfl rfl rfl rfl (by kernel_rfl) Tryz.func3 (by kernel_rfl)
    (of_decide_eq_true (by kernel_rfl)) (by unfold Func.isWrapper; first | (rw [if_pos (by decide +kernel)]; kernel_rfl) | (rw [if_neg (by decide +kernel)]; exact ⟨rfl, rfl⟩))
    (fun os started H enc _ => lifted os started H enc)

theorem proved : Rows.FnSlidCardSaid :=
  Claim7.holds_tied_plain_at .later [] [.data, .data, .data] true (true, Rows.fnSlidCard.stood.harness.2) true
    over (fun _ h => by cases h) (by kernel_rfl) (fun _ h => by cases h) fnSlid_row_tie rfl ⟨rfl, rfl⟩ (by kernel_rfl) rfl
    (fun f fn hf hfn => by
      obtain rfl : f = 3 := Option.some.inj ((show Tryz.prog.funcNamed Rows.fnSlidRow.func = some 3 by kernel_rfl).symm.trans hf) |>.symm
      obtain rfl : fn = Tryz.f3 := (Option.some.inj (Tryz.func3.symm.trans hfn)).symm
      exact ⟨by kernel_rfl, fun j t ht => by
        rw [Tryz.params3] at ht
        have hm : t ∈ [22] := by
          have := List.mem_of_getElem? (l := [22]) (i := j) (a := t) (by simpa using ht)
          exact this
        have hall : ∀ t ∈ [22], Tryz.prog.wantsStandIn t = false := by
          intro t ht
          simp only [List.mem_cons, List.not_mem_nil, or_false] at ht
          rcases ht with rfl <;> kernel_rfl
        exact hall t hm⟩)
    (by kernel_rfl)
#print axioms proved
end Go.Proofs.YtaeeoehmocelhaaGreatDoor.fnSlid
