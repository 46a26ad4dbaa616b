/-
  The contract of the program's Names.
-/
import Derived.Test.YtlgaamhjpkkjmaaNamP
namespace Go.Proofs.Ytlgaamhjpkkjmaa
open Go.RowKit
attribute [local go_sem] Plain.and7 Instr.field asAgg

set_option maxHeartbeats 8000000 in
set_option maxRecDepth 100000 in
theorem impl_Names_ok (w : World) (ao : Option Addr) (cap : Nat) (zs : List Int) (obj : Int) (hI : Ints w ao zs) (hl : zs.length ≤ 1048576) (ho : -9223372036854775808 ≤ obj ∧ obj ≤ 9223372036854775807) :
    Calls Try.prog 25 #[.agg #[.slice ao zs.length cap], .int .i64 obj] w fun e w' => ∃ v ps, e = .returned v ∧ OwnS w' w.heap.size v (txtsP zs ps) ∧ ((namesR zs obj = false ∧ ps = []) ∨ (namesR zs obj = true ∧ Path zs (hz zs (plc obj + 2)) ps 0)) ∧ ps.length ≤ 1048576 ∧ Kept w w' := by
  obtain ⟨i0, hi, hz0, hz1, hz2⟩ := info_parts infoS
  have b0 := Cells.new w 27 #[.slice ao zs.length cap]
  have k0 : Kept w (w.alloc (.cells #[.slice ao zs.length cap] 27)) := Kept.alloc (Below.refl _ _) _
  have hLo := heapLayout_ok _ ao cap zs (hI.kept k0) hl
  have nil : ∀ W, OwnS W w.heap.size (.slice none 0 0) (txtsP zs []) := fun W => World.ownsRow_nil _ _ _ _
  cases hh : heapR zs with
  | false =>
    have HR : Hid (namesR zs obj = false) := by simp [Hid, namesR, hh]
    have hLo' := hLo.mono (R' := fun e w' => e = .returned (.tuple #[.slice none 0 0, .bool false]) ∧ Kept (w.alloc (.cells #[.slice ao zs.length cap] 27)) w') (fun e w' h => ⟨h.1 hh, h.2.2⟩)
    clear hh hI hLo
    go_enter Try.func25, Try.ntmps25
    go_wp2_with (go_at_call 36; refine hLo'.mono ?_; rintro e w1 ⟨rfl, hk1⟩)
    go_ret
    exact ⟨_, [], rfl, nil _, .inl ⟨HR.out, rfl⟩, by simp, k0.trans hk1⟩
  | true =>
    have hLo' := hLo.mono (R' := fun e w' => ∃ lo lc, e = .returned (.tuple #[.slice lo zs.length lc, .bool true]) ∧ Ints w' lo (lyt zs) ∧ Kept (w.alloc (.cells #[.slice ao zs.length cap] 27)) w') (fun e w' h => by obtain ⟨lo, lc, h1, h2⟩ := h.2.1 hh; exact ⟨lo, lc, h1, h2, h.2.2⟩)
    have hOb := fun (u : World) (lo : Option Addr) (lc : Nat) (hu : Ints u lo (lyt zs)) => isObject_ok u lo lc zs obj hu ho.1 ho.2
    clear hLo
    cases hob : isOb zs obj with
    | false =>
      have HR : Hid (namesR zs obj = false) := by simp [Hid, namesR, hob]
      rw [hob] at hOb
      clear hh hI hob
      go_enter Try.func25, Try.ntmps25
      go_wp2_with (first | (go_at_call 36; refine hLo'.mono ?_; rintro e w1 ⟨lo, lc, rfl, hLy, hk1⟩; have hO1 := hOb w1 lo lc hLy; clear hLy) | (go_at_call 57; refine hO1.mono ?_; rintro e wx ⟨rfl, rfl⟩))
      go_ret
      exact ⟨_, [], rfl, nil _, .inl ⟨HR.out, rfl⟩, by simp, k0.trans hk1⟩
    | true =>
      rw [hob] at hOb
      obtain ⟨h5, hv⟩ := isOb_facts hob
      obtain ⟨a, s, ha, hle, hs, _, _, hnx⟩ := obj_facts hh h5 hv
      have HP : Hid (plc obj = a) := plc_is ha
      have HR : Hid (namesR zs obj = !roundR zs obj) := by simp [Hid, namesR, hh, hob]
      have hNm := fun (u : World) => impl_Num_ok obj u ho.1 ho.2
      rw [ha] at hNm
      have HH : Hid _ := hh
      have HI : Hid _ := hI
      have HNX : Hid _ := hnx
      have HOA : Hid _ := fun (u : World) (hu : Kept w u) => objectAt_ok u ao cap zs a (hI.kept hu) hl hh (by omega) hnx
      clear hh hI hob h5 hv ha hnx
      go_enter Try.func25, Try.ntmps25
      go_wp2_with (first | (go_at_call 36; refine hLo'.mono ?_; rintro e w1 ⟨lo, lc, rfl, hLy, hk1⟩; have hO1 := hOb w1 lo lc hLy; clear hLy) | (go_at_call 57; refine hO1.mono ?_; rintro e wx ⟨rfl, rfl⟩))
      have x1 := b0.kept hk1
      have xd := x1.kept (Below.refl _ w1).drew
      have cd := xd.cell 0
      have K1 : Kept w w1.drew := (k0.trans hk1).drew
      clear hLo' hOb hO1
      go_cut [7] from 24 to 28 (fun s7 wx => ∃ B ca cc ps v', s7 = .pointer (some ⟨B, 0, none⟩) ∧ Cells wx B 67 #[.int .i64 (a : Int), .int .i64 (hz zs (a + 1)), .slice ca ps.length cc] ∧ CelsAt wx ca zs ps ∧ All zs (hz zs (a + 2)) ps v' ∧ Kept w1 wx)
      case first =>
        have kz : Kept w1 (w1.alloc (.cells #[.int .i64 0, .int .i64 0, .slice none 0 0] 67)).drew := (Kept.alloc (Below.refl _ _) _).drew
        have cdz := (x1.kept kz).cell 0
        have xz : Cells (w1.alloc (.cells #[.int .i64 0, .int .i64 0, .slice none 0 0] 67)).drew w1.heap.size 67 #[.int .i64 0, .int .i64 0, .slice none 0 0] := (Cells.new w1 67 #[.int .i64 0, .int .i64 0, .slice none 0 0]).kept (Below.refl _ _).drew
        have K1z : Kept w (w1.alloc (.cells #[.int .i64 0, .int .i64 0, .slice none 0 0] 67)).drew := (k0.trans hk1).trans kz
        go_region_with (first | (go_at_call 39; refine (hNm _).mono ?_; rintro e wx ⟨rfl, rfl⟩) | (go_at_call 55; refine (HOA.out _ (by first | exact K1 | exact K1z)).mono ?_; rintro e w2 ⟨cs, ps, v', rfl, hO, hAl, hk2⟩; obtain ⟨ca, cc, rfl, hcc, hAt⟩ := hO.at; first | (have xz2 := xz.kept hk2; have d0 := xz2.cell 0; have d1 := xz2.cell 1; have d2 := xz2.cell 2; have f0 := xz2.frozen 0; have f1 := xz2.frozen 1; have f2 := xz2.frozen 2; clear cd cdz) | (have xy := Cells.new w2 67 #[.int .i64 0, .int .i64 0, .slice none 0 0]; have d0 := xy.cell 0; have d1 := xy.cell 1; have d2 := xy.cell 2; have f0 := xy.frozen 0; have f1 := xy.frozen 1; have f2 := xy.frozen 2; clear cd cdz)))
        all_goals (
          go_wp2_with fail
          go_meet
          first
          | exact ⟨w2.heap.size, ca, cc, ps, v', rfl, Cells.new w2 _ _, hAt.kept (Kept.alloc (Below.refl _ _) _), hAl, Kept.alloc (Kept.trans (Below.refl _ w1).drew hk2) _⟩
          | exact ⟨w1.heap.size, ca, cc, ps, v', rfl, xz2.set3 _ _ _, OwnC.cels (ownsRow_setCell_below (ownsRow_setCell_below (ownsRow_setCell_below hO (by simp) _) (by simp) _) (by simp) _), hAl, (((kz.trans hk2).set (by simp) _).set (by simp) _).set (by simp) _⟩)
      case rest =>
        obtain ⟨B, ca, cc, ps, v', rfl, xB, hAt, hAl, kc0⟩ := hcut
        have hKc := (k0.trans hk1).trans kc0
        have hrd := hAl.round
        have HRd : Hid (roundR zs obj = decide (v' ≠ 0)) := by rw [Hid, roundR, HP.out]; exact hrd
        have hpl := hAl.len
        have cB := xB.cell 2
        have hRo := round_ok wc ca cc zs ps _ v' hAt (by omega) hAl
        clear hrd x1 xd cd K1
        by_cases h0 : v' = 0
        · subst h0
          have HAl : Hid _ := hAl
          have HAt : Hid _ := hAt
          have hdz : decide ((0 : Int) ≠ 0) = false := by decide
          rw [hdz] at hRo
          have ySl := (b0.kept hk1)
          go_wp2_with fail
          refine hRo.mono ?_
          rintro e w3 ⟨rfl, hk3⟩
          have xB3 := xB.kept hk3
          have cB3 := xB3.cell 2
          clear hRo hdz cB
          go_wp2_with fail
          go_loopw [8, 35] (fun nm i wr => ∃ k : Nat, i = .int .i64 k ∧ k ≤ ps.length ∧ OwnS wr w3.heap.size nm (txtsP zs (ps.take k)) ∧ Kept w3 wr) (fun _ i _ => ps.length - (intOf i).toNat)
          case atStart => exact ⟨0, rfl, Nat.zero_le _, World.ownsRow_nil _ _ _ _, Below.refl _ _⟩
          case round =>
            obtain ⟨k, rfl, hk, hO, hK⟩ := hrel
            obtain ⟨na, nc, rfl⟩ := hO.shape
            have HO : Hid _ := hO
            have HK3 : Hid _ := hK
            have kw : Kept w wr := (hKc.trans hk3).trans hK
            by_cases hlt : k < ps.length
            · obtain ⟨p, hp⟩ : ∃ p, ps[k]? = some p := ⟨_, List.getElem?_eq_getElem hlt⟩
              obtain ⟨b, off, rfl, hcr⟩ := ((CelsAt.kept HAt.out hk3).kept hK) k p hp
              have c0 := hcr 0 (by omega)
              have c1 := hcr 1 (by omega)
              have c2 := hcr 2 (by omega)
              have c3 := hcr 3 (by omega)
              simp only [Nat.add_zero] at c0
              have q1 : (k : Int) < (ps.length : Int) := by omega
              obtain ⟨u, hu0, hun, hup⟩ := HAl.out.path.cells HH.out HNX.out p (List.mem_of_getElem? hp)
              obtain ⟨p', m, t, e1, e2, e3, e4, e5, e6, e7, e8, e9, e10, e11⟩ := cell_name HH.out hun hu0
              obtain rfl : p' = p := e1.symm.trans hup
              have hNm2 := fun (x : World) => impl_Num_ok (hz zs (p' + 1)) x e6 e7
              rw [e5] at hNm2
              have HRT : Hid _ := fun (x : World) (hx : Kept w x) => readText_ok x ao cap zs m t (Ints.kept HI.out hx) hl e9 (by omega) e10
              rw [← e11] at HRT
              have xbx := Cells.new wr 76 (celC zs p')
              have kA : Kept wr (wr.alloc (.cells (celC zs p') 76)) := Kept.alloc (Below.refl _ _) _
              have ySw := (((b0.kept hk1).kept kc0).kept hk3).kept hK
              clear e1 e2 e3 e4 e5 e8 e9 e10 e11 hcr hun hup hu0
              have hOb2 := OwnS.block HO.out
              have hs3 := hK.size
              have hsw := (hKc.trans hk3).size
              have ag : (Value.slice na (txtsP zs (ps.take k)).length nc).ownBlock ≠ some w.heap.size := fun e => by have := hOb2 _ e; have := xB3.lt; have := ySl.lt; have := kc0.size; have := hk3.size; omega
              have ak : (Value.slice na (txtsP zs (ps.take k)).length nc).ownBlock ≠ some wr.heap.size := fun e => by have := hOb2 _ e; omega
              have kdr : Kept wr (wr.alloc (.cells (celC zs p') 76)).drew := kA.drew
              have kwd := kw.trans kdr
              have oA := OwnS.kept HO.out kdr
              have lz : w.heap.size < wr.heap.size := by have := ySw.lt; omega
              have hlk : (txtsP zs (ps.take k)).length ≤ 1048576 := by rw [txtsP_len, List.length_take]; omega
              have cS := (ySw.kept kA).cell 0
              have cN := xbx.cell 1
              have HP' : Hid _ := hp
              have HNM : Hid _ := hNm2
              clear hOb2
              go_wp2_with fail
              go_region_held3 (fun w' => w'.cell? ⟨w.heap.size, 0, none⟩ = some (.slice ao zs.length cap) ∧ w'.cell? ⟨wr.heap.size, 1, none⟩ = some (.int .i64 (hz zs (p' + 1))))
                (first
                  | go_keep
                  | (go_split_ands
                     refine ⟨?_, ?_⟩
                     · (rw [hk4.cell (p := ⟨w.heap.size, 0, none⟩) (by simp; omega)]; assumption)
                     · (rw [hk4.cell (p := ⟨wr.heap.size, 1, none⟩) (by simp)]; assumption))
                  | (go_split_ands
                     refine ⟨?_, ?_⟩
                     · (rw [hgrow.cell_far _ (by simp at hs4 ⊢; omega) (Ne.symm ag)]; assumption)
                     · (rw [hgrow.cell_far _ (by simp at hs4 ⊢; omega) (Ne.symm ak)]; assumption)))
                (first
                  | (go_at_call 39; refine (HNM.out _).mono ?_; rintro e wx ⟨rfl, rfl⟩)
                  | (go_at_call 38; refine (HRT.out _ kwd).mono ?_; rintro e w4 ⟨rfl, hk4⟩; have hs4 := hk4.size)
                  | (refine step_append_lies _ (by rfl) _ _ _ (by rfl) w3.heap.size 9 i0 _ 1 16 Try.underlying39 hi hz0 hz1 hz2 rfl (by omega) (.slice na (txtsP zs (ps.take k)).length nc) (txtsP zs (ps.take k)).length ((txtsP zs (ps.take k)).map Value.string) (by rfl) (World.ownsRow.alloc (OwnS.kept oA hk4) _) ⟨w4.heap.size, 0, none⟩ 1 1 [.string (txtP zs (hz zs (p' + 1)))] (by rfl) (by rfl) (cell_one_new _ _ _) (by simp [Value.oneCell']) (by omega) (by unfold maxLen; omega) (by omega) (by simp at hs4 ⊢; omega) (w4.heap.size + 1) (by simp) ?_; intro gg cg w5 hown1 hgrow hat hlt5))
              go_wp2_with fail
              go_roundw
              case rel =>
                have et : ps.take (k + 1) = ps.take k ++ [p'] := by rw [List.take_add_one, HP'.out]; rfl
                have eo : OwnS w5 w3.heap.size (.slice (some ⟨gg, 0, none⟩) ((txtsP zs (ps.take k)).length + 1) cg) (txtsP zs (ps.take (k + 1))) := by
                  unfold OwnS
                  rw [show (txtsP zs (ps.take (k + 1))).length = (txtsP zs (ps.take k)).length + 1 by rw [et]; simp [txtsP], et, txtsP_snoc]
                  exact hown1
                exact ⟨k + 1, by go_num, by omega, eo, Below.grown (Kept.alloc (Kept.trans (Kept.trans HK3.out kdr) hk4) _) hgrow (by have := Below.size HK3.out; simp at hs4 ⊢; omega) (fun j e => (OwnS.block HO.out j e).1)⟩
              case measure => simp [intOf]; omega
            · obtain rfl : k = ps.length := by omega
              clear hO hK
              go_wp2_with fail
              go_ret
              exact ⟨_, ps.take ps.length, rfl, OwnS.base HO.out (by have := (hKc.trans hk3).size; omega), .inr ⟨by rw [HR.out, HRd.out]; rfl, by rw [HP.out, List.take_length]; exact HAl.out.path⟩, by rw [List.take_length]; omega, (hKc.trans hk3).trans HK3.out⟩
        · have hdz : decide (v' ≠ 0) = true := by simpa using h0
          rw [hdz] at hRo
          go_wp2_with fail
          refine hRo.mono ?_
          rintro e w3 ⟨rfl, hk3⟩
          go_wp2_with fail
          go_ret
          exact ⟨_, [], rfl, nil _, .inl ⟨by rw [HR.out, HRd.out, hdz]; rfl, rfl⟩, by simp, hKc.trans hk3⟩
end Go.Proofs.Ytlgaamhjpkkjmaa
