/-
  The contracts of the program's tail and PropSet.
-/
import Derived.Deep.RegionWith
import Derived.Deep.CutRange
import Derived.Test.YthkhlmbhickdbaaGrpPs
import Derived.Test.YthkhlmbhickdbaaTkfA
namespace Go.Proofs.Ythkhlmbhickdbaa
open Go.RowKit
attribute [local go_sem] Plain.and7

set_option maxHeartbeats 8000000 in
set_option maxRecDepth 100000 in
theorem tail_ok (w : World) (ca : Option Addr) (cc : Nat) (zs : List Int) (ps : List Nat) (a : Nat) (p : Int) (hR : CelsAt w ca zs ps) (hl : zs.length ≤ 1048576) (hpl : ps.length ≤ 1048576) (ha : a ≤ 1048576) (hle : ∀ q ∈ ps, q + 4 ≤ zs.length) :
    Calls Try.prog 50 #[.agg #[.int .i64 (a : Int), .int .i64 p, .slice ca ps.length cc]] w fun e w' => e = .returned (.int .i64 ((tailP a ps : Nat) : Int)) ∧ Kept w w' := by
  have b0 := Cells.new w 62 #[.int .i64 (a : Int), .int .i64 p, .slice ca ps.length cc]
  have k0 : Kept w (w.alloc (.cells #[.int .i64 (a : Int), .int .i64 p, .slice ca ps.length cc] 62)) := Kept.alloc (Below.refl _ _) _
  have c0 := b0.cell 0
  have c2 := b0.cell 2
  by_cases h0 : ps.length = 0
  · have hp : ps = [] := List.length_eq_zero_iff.1 h0
    have HT : Hid (tailP a ps = a + 2) := by simp [Hid, tailP, hp]
    have wr : IntKind.i64.wrap ((a : Int) + 2) = (a : Int) + 2 := by rw [IntWalk.i64_left, IntWalk.wrap64_in _ (by omega)]
    rw [h0] at c0 c2 k0 ⊢
    clear hR hp hle b0
    go_enter Try.func50, Try.ntmps50
    go_wp2_with fail
    go_ret
    exact ⟨by rw [HT.out]; simp, k0⟩
  · obtain ⟨q, hq⟩ : ∃ q, ps[ps.length - 1]? = some q := ⟨_, List.getElem?_eq_getElem (by omega)⟩
    have HT : Hid (tailP a ps = q + 3) := by rw [Hid, tailP, List.getLast?_eq_getElem?, hq]
    have hq4 := hle q (List.mem_of_getElem? hq)
    obtain ⟨b, off, rfl, hc⟩ := hR _ q hq
    have hb : b < w.heap.size := World.block_lt_of_cell? _ _ (hc 0 (by omega))
    have d0 := (k0.cell (p := ⟨b, off + (ps.length - 1) * 4 + 0, none⟩) hb).trans (hc 0 (by omega))
    simp only [Nat.add_zero] at d0
    have e1 : IntKind.i64.wrap ((ps.length : Int) - 1) = (ps.length : Int) - 1 := by rw [IntWalk.i64_left, IntWalk.wrap64_in _ (by omega)]
    have e2 : ((ps.length : Int) - 1).toNat = ps.length - 1 := by omega
    have p1 : (ps.length : Int) - 1 < (ps.length : Int) := by omega
    have p3 : (0 : Int) ≤ (ps.length : Int) - 1 := by omega
    have wr : IntKind.i64.wrap ((q : Int) + 3) = (q : Int) + 3 := by rw [IntWalk.i64_left, IntWalk.wrap64_in _ (by omega)]
    clear hc hR hle hq b0
    go_enter Try.func50, Try.ntmps50
    go_wp2_with fail
    go_ret
    exact ⟨by rw [HT.out]; simp, k0⟩
set_option maxHeartbeats 16000000 in
set_option maxRecDepth 100000 in
theorem impl_PropSet_ok (w : World) (ao : Option Addr) (cap : Nat) (zs : List Int) (obj name v : Int) (hI : Ints w ao zs) (hl : zs.length ≤ 1048576) (ho : -9223372036854775808 ≤ obj ∧ obj ≤ 9223372036854775807) (hn : -9223372036854775808 ≤ name ∧ name ≤ 9223372036854775807) (hv : -9223372036854775808 ≤ v ∧ v ≤ 9223372036854775807) :
    Calls Try.prog 19 #[.agg #[.slice ao zs.length cap], .int .i64 obj, .int .i64 name, .int .i64 v] w fun e w' => ∃ u, e = .returned (.tuple #[.agg #[u], .bool (propC zs obj name v).2]) ∧ OwnR w' w.heap.size u (propC zs obj name v).1 ∧ Kept w w' := by
  have b0 := (Cells.new w 28 #[.slice ao zs.length cap]).alloc (.cells #[.slice none 0 0] 28)
  have b1 := Cells.new (w.alloc (.cells #[.slice ao zs.length cap] 28)) 28 #[.slice none 0 0]
  have k0 : Kept w ((w.alloc (.cells #[.slice ao zs.length cap] 28)).alloc (.cells #[.slice none 0 0] 28)) := (Kept.alloc (Below.refl _ _) _).alloc _
  simp only [World.size_alloc] at b1
  have hLo := heapLayout_ok _ ao cap zs (hI.kept k0) hl
  cases hh : heapR zs with
  | false =>
    have HC : Hid (propC zs obj name v = ([], false)) := by rw [Hid, propC_no (by simp [propR, hh])]; simp [zeroL, hh]
    have hLo' := hLo.mono (R' := fun e w' => e = .returned (.tuple #[.slice none 0 0, .bool false]) ∧ Kept ((w.alloc (.cells #[.slice ao zs.length cap] 28)).alloc (.cells #[.slice none 0 0] 28)) w') (fun e w' h => ⟨h.1 hh, h.2.2⟩)
    clear hh hI hLo
    go_enter Try.func19, Try.ntmps19
    go_wp2_with (go_at_call 42; refine hLo'.mono ?_; rintro e w1 ⟨rfl, hk1⟩; have x1 := b1.kept hk1; have d1 := x1.cell 0; have f1 := x1.frozen 0)
    have q := (x1.set1 (.slice none 0 0)).cell 0
    refine bodyPost_ret (v := .tuple #[.agg #[.slice none 0 0], .bool false]) (by simp [results, Try.results19, go_sem, q]) rfl ⟨_, by rw [HC.out], by rw [HC.out]; exact .inl ⟨rfl, rfl⟩, (k0.trans hk1).set (by simp) _⟩
  | true =>
    have hLo' := hLo.mono (R' := fun e w' => ∃ lo lc, e = .returned (.tuple #[.slice lo zs.length lc, .bool true]) ∧ Ints w' lo (lyt zs) ∧ Kept ((w.alloc (.cells #[.slice ao zs.length cap] 28)).alloc (.cells #[.slice none 0 0] 28)) w') (fun e w' h => by obtain ⟨lo, lc, h1, h2⟩ := h.2.1 hh; exact ⟨lo, lc, h1, h2, h.2.2⟩)
    have HOb : Hid _ := fun (u : World) (lo : Option Addr) (lc : Nat) (hu : Ints u lo (lyt zs)) => isObject_ok u lo lc zs obj hu ho.1 ho.2
    have HV7 : Hid _ := fun (u : World) (lo : Option Addr) (lc : Nat) (hu : Ints u lo (lyt zs)) => valueOk_ok u lo lc zs 7 name hu hn.1 hn.2
    have HV10 : Hid _ := fun (u : World) (lo : Option Addr) (lc : Nat) (hu : Ints u lo (lyt zs)) => valueOk_ok u lo lc zs 10 v hu hv.1 hv.2
    have HCp : Hid _ := fun (u : World) (hu : Kept w u) => copySlab_ok u ao cap zs (hI.kept hu) hl
    have hez : zeroL zs = zs := by simp [zeroL, hh]
    clear hLo
    have HNo : Hid (propR zs obj name v = false → propC zs obj name v = (zs, false)) := fun h => by rw [propC_no h, hez]
    have HRo : Hid (roundR zs obj = true → propC zs obj name v = (zs, false)) := fun h => by rw [propC_round h, hez]
    clear hez
    cases hob : isOb zs obj with
    | false =>
      rw [hob] at HOb
      have HC : Hid (propC zs obj name v = (zs, false)) := HNo.out (by simp [propR, hob])
      have HOB : Hid _ := hob
      clear hob hI hh HV7 HV10 HRo
      go_enter Try.func19, Try.ntmps19
      go_wp2_with (first | (go_at_call 42; refine hLo'.mono ?_; rintro e w1 ⟨lo, lc, rfl, hLy, hk1⟩; have x0 := (b0.kept hk1).cell 0; have HLy : Hid _ := hLy; clear hLy) | (go_at_call 43; refine (HOb.out _ lo lc HLy.out).mono ?_; rintro e wx ⟨rfl, rfl⟩) | (go_at_call 30; refine (HCp.out _ (k0.trans hk1)).mono ?_; rintro e w2 ⟨g2, c2, rfl, hg2, hc2, hR2, hk2⟩; have x1 := (b1.kept hk1).kept hk2; have d1 := x1.cell 0; have f1 := x1.frozen 0; have l1 := x1.lt))
      have hs1 := hk1.size
      simp only [World.size_alloc] at hs1
      have q := (x1.set1 (.slice (some ⟨g2, 0, none⟩) zs.length c2)).cell 0
      refine bodyPost_ret (v := .tuple #[.agg #[.slice (some ⟨g2, 0, none⟩) zs.length c2], .bool false]) (by simp [results, Try.results19, go_sem, q]) rfl ⟨_, by rw [HC.out], by rw [HC.out]; exact .inr ⟨g2, c2, rfl, by omega, hc2, hR2.other (by intro h; simp at h <;> omega) _⟩, ((k0.trans hk1).trans hk2).set (by simp) _⟩
    | true =>
      rw [hob] at HOb
      cases hv7 : valR zs 7 name with
      | false =>
        rw [hv7] at HV7
        have HC : Hid (propC zs obj name v = (zs, false)) := HNo.out (by simp [propR, hv7])
        clear hob hI hh hv7 HV10 HRo
        go_enter Try.func19, Try.ntmps19
        go_wp2_with (first | (go_at_call 42; refine hLo'.mono ?_; rintro e w1 ⟨lo, lc, rfl, hLy, hk1⟩; have x0 := (b0.kept hk1).cell 0; have HLy : Hid _ := hLy; clear hLy) | (go_at_call 43; refine (HOb.out _ lo lc HLy.out).mono ?_; rintro e wx ⟨rfl, rfl⟩))
        refine (HV7.out _ lo lc HLy.out).mono ?_
        rintro e wx ⟨rfl, rfl⟩
        go_wp2_with (first | (go_at_call 30; refine (HCp.out _ (k0.trans hk1)).mono ?_; rintro e w2 ⟨g2, c2, rfl, hg2, hc2, hR2, hk2⟩; have x1 := (b1.kept hk1).kept hk2; have d1 := x1.cell 0; have f1 := x1.frozen 0; have l1 := x1.lt))
        have hs1 := hk1.size
        simp only [World.size_alloc] at hs1
        have q := (x1.set1 (.slice (some ⟨g2, 0, none⟩) zs.length c2)).cell 0
        refine bodyPost_ret (v := .tuple #[.agg #[.slice (some ⟨g2, 0, none⟩) zs.length c2], .bool false]) (by simp [results, Try.results19, go_sem, q]) rfl ⟨_, by rw [HC.out], by rw [HC.out]; exact .inr ⟨g2, c2, rfl, by omega, hc2, hR2.other (by intro h; simp at h <;> omega) _⟩, ((k0.trans hk1).trans hk2).set (by simp) _⟩
      | true =>
        rw [hv7] at HV7
        cases hv10 : valR zs 10 v with
        | false =>
          rw [hv10] at HV10
          have HC : Hid (propC zs obj name v = (zs, false)) := HNo.out (by simp [propR, hv10])
          clear hob hI hh hv7 hv10 HRo
          go_enter Try.func19, Try.ntmps19
          go_wp2_with (first | (go_at_call 42; refine hLo'.mono ?_; rintro e w1 ⟨lo, lc, rfl, hLy, hk1⟩; have x0 := (b0.kept hk1).cell 0; have HLy : Hid _ := hLy; clear hLy) | (go_at_call 43; refine (HOb.out _ lo lc HLy.out).mono ?_; rintro e wx ⟨rfl, rfl⟩))
          refine (HV7.out _ lo lc HLy.out).mono ?_
          rintro e wx ⟨rfl, rfl⟩
          go_wp2_with fail
          refine (HV10.out _ lo lc HLy.out).mono ?_
          rintro e wx ⟨rfl, rfl⟩
          go_wp2_with (first | (go_at_call 30; refine (HCp.out _ (k0.trans hk1)).mono ?_; rintro e w2 ⟨g2, c2, rfl, hg2, hc2, hR2, hk2⟩; have x1 := (b1.kept hk1).kept hk2; have d1 := x1.cell 0; have f1 := x1.frozen 0; have l1 := x1.lt))
          have hs1 := hk1.size
          simp only [World.size_alloc] at hs1
          have q := (x1.set1 (.slice (some ⟨g2, 0, none⟩) zs.length c2)).cell 0
          refine bodyPost_ret (v := .tuple #[.agg #[.slice (some ⟨g2, 0, none⟩) zs.length c2], .bool false]) (by simp [results, Try.results19, go_sem, q]) rfl ⟨_, by rw [HC.out], by rw [HC.out]; exact .inr ⟨g2, c2, rfl, by omega, hc2, hR2.other (by intro h; simp at h <;> omega) _⟩, ((k0.trans hk1).trans hk2).set (by simp) _⟩
        | true =>
          rw [hv10] at HV10
          have hpr : propR zs obj name v = true := by simp [propR, hh, hob, hv7, hv10]
          have hok := heapR_slab hh
          have hlen := (slabOk_iff.1 hok).1
          obtain ⟨h5, hle5⟩ := isOb_facts hob
          obtain ⟨a, s, ha, hle, hs, _, _, hnx⟩ := obj_facts hh h5 hle5
          have HP : Hid (plc obj = a) := plc_is ha
          have HA : Hid (obj / 8 = (a : Int)) := ha
          have hNm := fun (u : World) => impl_Num_ok obj u ho.1 ho.2
          rw [ha] at hNm
          have HI : Hid _ := hI
          have HOA : Hid _ := fun (u : World) (hu : Kept w u) => objectAt_ok u ao cap zs a (hI.kept hu) hl hh (by omega) hnx
          have HYes : Hid (roundR zs obj = false → propC zs obj name v = ((setC zs obj name v).1, (setC zs obj name v).2.2)) := fun h => propC_yes hpr h
          have ha3 : a + 3 ≤ zs.length := by omega
          have HOK : Hid _ := hok
          clear hob hh hv7 hv10 hI h5 hle5 ha hnx hpr hok HNo
          go_enter Try.func19, Try.ntmps19
          go_wp2_with (first | (go_at_call 42; refine hLo'.mono ?_; rintro e w1 ⟨lo, lc, rfl, hLy, hk1⟩; have x0 := (b0.kept hk1).cell 0; have HLy : Hid _ := hLy; clear hLy) | (go_at_call 43; refine (HOb.out _ lo lc HLy.out).mono ?_; rintro e wx ⟨rfl, rfl⟩))
          refine (HV7.out _ lo lc HLy.out).mono ?_
          rintro e wx ⟨rfl, rfl⟩
          go_wp2_with fail
          refine (HV10.out _ lo lc HLy.out).mono ?_
          rintro e wx ⟨rfl, rfl⟩
          go_wp2_with fail
          have x1 := b0.kept hk1
          have y1 := b1.kept hk1
          have xd := x1.kept (Below.refl _ w1).drew
          have cd := xd.cell 0
          have K1 : Kept w w1.drew := (k0.trans hk1).drew
          clear hLo' HOb HV7 HV10 x0 HLy
          go_cut [12] from 44 to 48 (fun s7 wx => ∃ B ca cc ps v', s7 = .pointer (some ⟨B, 0, none⟩) ∧ w1.heap.size ≤ B ∧ Cells wx B 62 #[.int .i64 (a : Int), .int .i64 (hz zs (a + 1)), .slice ca ps.length cc] ∧ CelsAt wx ca zs ps ∧ All zs (hz zs (a + 2)) ps v' ∧ Kept w1 wx)
          case first =>
            have kz : Kept w1 (w1.alloc (.cells #[.int .i64 0, .int .i64 0, .slice none 0 0] 62)).drew := (Kept.alloc (Below.refl _ _) _).drew
            have cdz := (x1.kept kz).cell 0
            have xz : Cells (w1.alloc (.cells #[.int .i64 0, .int .i64 0, .slice none 0 0] 62)).drew w1.heap.size 62 #[.int .i64 0, .int .i64 0, .slice none 0 0] := (Cells.new w1 62 #[.int .i64 0, .int .i64 0, .slice none 0 0]).kept (Below.refl _ _).drew
            have K1z : Kept w (w1.alloc (.cells #[.int .i64 0, .int .i64 0, .slice none 0 0] 62)).drew := (k0.trans hk1).trans kz
            go_region_with (first | (go_at_call 46; refine (hNm _).mono ?_; rintro e wx ⟨rfl, rfl⟩) | (go_at_call 45; refine (HOA.out _ (by first | exact K1 | exact K1z)).mono ?_; rintro e w2 ⟨cs, ps, v', rfl, hO, hAl, hk2⟩; obtain ⟨ca, cc, rfl, hcc, hAt⟩ := hO.at; first | (have xz2 := xz.kept hk2; have d0 := xz2.cell 0; have d1 := xz2.cell 1; have d2 := xz2.cell 2; have f0 := xz2.frozen 0; have f1 := xz2.frozen 1; have f2 := xz2.frozen 2; clear cd cdz) | (have xy := Cells.new w2 62 #[.int .i64 0, .int .i64 0, .slice none 0 0]; have d0 := xy.cell 0; have d1 := xy.cell 1; have d2 := xy.cell 2; have f0 := xy.frozen 0; have f1 := xy.frozen 1; have f2 := xy.frozen 2; clear cd cdz)))
            all_goals (
              go_wp2_with fail
              go_meet
              first
              | exact ⟨w2.heap.size, ca, cc, ps, v', rfl, by have := hk2.size; simpa using this, Cells.new w2 _ _, hAt.kept (Kept.alloc (Below.refl _ _) _), hAl, Kept.alloc (Kept.trans (Below.refl _ w1).drew hk2) _⟩
              | exact ⟨w1.heap.size, ca, cc, ps, v', rfl, Nat.le_refl _, xz2.set3 _ _ _, OwnC.cels (ownsRow_setCell_below (ownsRow_setCell_below (ownsRow_setCell_below hO (by simp) _) (by simp) _) (by simp) _), hAl, (((kz.trans hk2).set (by simp) _).set (by simp) _).set (by simp) _⟩)
          case rest =>
          obtain ⟨B, ca, cc, ps, v', rfl, hB, xB, hAt, hAl, kc0⟩ := hcut
          have hKc := (k0.trans hk1).trans kc0
          have xc := x1.kept kc0
          have yc := y1.kept kc0
          have hrd := hAl.round
          have HRd : Hid (roundR zs obj = decide (v' ≠ 0)) := by rw [Hid, roundR, HP.out]; exact hrd
          have hpl := hAl.len
          have cB := xB.cell 2
          have hRo := round_ok wc ca cc zs ps _ v' hAt (by omega) hAl
          have hs1 := hk1.size
          simp only [World.size_alloc] at hs1
          have hsc := kc0.size
          clear hrd x1 y1 xd cd K1 kc0
          by_cases h0 : v' = 0
          · subst h0
            have hdz : decide ((0 : Int) ≠ 0) = false := by decide
            rw [hdz] at hRo HRd
            have HS : Hid _ := HYes.out HRd.out
            have HAl : Hid (All zs (hz zs (plc obj + 2)) ps 0) := by rw [Hid, HP.out]; exact hAl
            have HLE : Hid _ := hAl.le
            go_wp2_with fail
            refine hRo.mono ?_
            rintro e w3 ⟨rfl, hk3⟩
            have xB3 := xB.kept hk3
            have cB3 := xB3.cell 2
            have hAt3 := hAt.kept hk3
            have hNa := named_ok w3 ca cc zs ps name hAt3 (by omega)
            have K3 := hKc.trans hk3
            have x3 := xc.kept hk3
            have y3 := yc.kept hk3
            have hs3 := hk3.size
            clear hRo hdz cB HRd xB hAt hk3 xc yc hKc hAl
            cases hna : namedP zs name ps with
            | some q =>
              rw [namedV_some hna] at hNa
              have hq4 := namedP_le HAl.out hna
              have HC : Hid (propC zs obj name v = (zs.set (q + 2) v, true)) := by rw [Hid, HS.out, setC_there HAl.out hna]
              clear hna
              go_wp2_with fail
              refine hNa.mono ?_
              rintro e w4 ⟨rfl, hk4⟩
              have xC := Cells.new w4 66 (celC zs q)
              have kC : Kept w4 (w4.alloc (.cells (celC zs q) 66)) := Kept.alloc (Below.refl _ _) _
              have K5 := (K3.trans hk4).trans kC
              have x5 := (x3.kept hk4).kept kC
              have y5 := (y3.kept hk4).kept kC
              have cx5 := x5.cell 0
              have hs4 := hk4.size
              have hCp := HCp.out _ K5
              clear hNa cB3 xB3 hAt3 x3 y3 HOA HCp
              go_wp2_with fail
              refine hCp.mono ?_
              rintro e w6 ⟨g2, c2, rfl, hg2, hc2, hR2, hk6⟩
              have xC6 := xC.kept hk6
              have y6 := y5.kept hk6
              have hs6 := hk6.size
              have lg := hR2.lt
              have xz := Cells.new w6 28 #[.slice (some ⟨g2, 0, none⟩) zs.length c2]
              have ka : Kept w6 (w6.alloc (.cells #[.slice (some ⟨g2, 0, none⟩) zs.length c2] 28)) := Kept.alloc (Below.refl _ _) _
              have xC7 := xC6.kept ka
              have R7 := hR2.kept ka
              have cz := xz.cell 0
              have cC : (w6.alloc (.cells #[.slice (some ⟨g2, 0, none⟩) zs.length c2] 28)).cell? ⟨w4.heap.size, 0, none⟩ = some (.int .i64 (q : Int)) := xC7.cell 0
              have cg := R7.cell (j := q + 2) (by omega)
              have fg := R7.frozen (q + 2)
              have wr : IntKind.i64.wrap ((q : Int) + 2) = (q : Int) + 2 := by rw [IntWalk.i64_left, IntWalk.wrap64_in _ (by omega)]
              have t2 : ((q : Int) + 2).toNat = q + 2 := by omega
              have p2 : (q : Int) + 2 < (zs.length : Int) := by omega
              have p0 : (0 : Int) ≤ (q : Int) + 2 := by omega
              simp only [World.size_alloc] at hs6 hg2
              have kn : Kept (w6.setCell ⟨g2, q + 2, none⟩ (.int .i64 v)) ((w6.setCell ⟨g2, q + 2, none⟩ (.int .i64 v)).alloc (.cells #[.slice (some ⟨g2, 0, none⟩) zs.length c2] 28)) := Kept.alloc (Below.refl _ _) _
              have R8 := (hR2.set (k := q + 2) (v := v) (by omega) hv).kept kn
              have z8 := Cells.new (w6.setCell ⟨g2, q + 2, none⟩ (.int .i64 v)) 28 #[.slice (some ⟨g2, 0, none⟩) zs.length c2]
              have y8 := (y6.other (p := ⟨g2, q + 2, none⟩) (by simp; omega) (.int .i64 v)).kept kn
              have K8 := ((K5.trans hk6).set (p := ⟨g2, q + 2, none⟩) (by simp; omega) (.int .i64 v)).trans kn
              simp only [World.size_setCell] at z8
              have cz8 := z8.cell 0
              have cy8 := y8.cell 0
              have fy8 := y8.frozen 0
              clear hCp cx5 x5 y5 xC xC6 y6 hR2 xC7
              go_wp2_with fail
              have q := (y8.set1 (.slice (some ⟨g2, 0, none⟩) zs.length c2)).cell 0
              refine bodyPost_ret (v := .tuple #[.agg #[.slice (some ⟨g2, 0, none⟩) zs.length c2], .bool true]) (by simp [results, Try.results19, go_sem, q]) rfl ⟨_, by rw [HC.out], by rw [HC.out]; exact .inr ⟨g2, c2, by simp, by omega, by simpa using hc2, R8.other (by intro h; simp at h <;> omega) _⟩, Kept.set K8 (by simp) _⟩
            | none =>
              rw [namedV_none hna] at hNa
              have cx4 := fun (u : World) (hu : Kept w3 u) => (x3.kept hu).cell 0
              cases hff : ffB zs 4 with
              | none =>
                have HC : Hid (propC zs obj name v = (zs, false)) := by rw [Hid, HS.out, setC_full HAl.out hna hff]
                have HT : Hid _ := fun (u : World) (hu : Kept w u) (so : Option Addr) (sl sc : Nat) => takeFilled_no u ao so cap sl sc zs 3 4 (Ints.kept HI.out hu) hl HOK.out (.inr hff)
                clear hna hff HCp HOA
                go_wp2_with fail
                refine hNa.mono ?_
                rintro e w4 ⟨rfl, hk4⟩
                have kC : Kept w4 (w4.alloc (.cells #[.int .i64 0, .int .i64 0, .int .i64 0, .int .i64 0] 66)) := Kept.alloc (Below.refl _ _) _
                have kL : Kept (w4.alloc (.cells #[.int .i64 0, .int .i64 0, .int .i64 0, .int .i64 0] 66)) ((w4.alloc (.cells #[.int .i64 0, .int .i64 0, .int .i64 0, .int .i64 0] 66)).alloc (.cells #[.int .i64 name, .int .i64 v, .int .i64 0] 3)) := Kept.alloc (Below.refl _ _) _
                have K5 := ((K3.trans hk4).trans kC).trans kL
                have x5 := (x3.kept hk4).kept kC
                have y5 := ((y3.kept hk4).kept kC).kept kL
                have cx5 := x5.cell 0
                have hs4 := hk4.size
                have hT := fun so sl sc => HT.out _ K5 so sl sc
                clear hNa cB3 xB3 hAt3 x3 y3 HT cx4
                go_wp2_with fail
                refine (hT _ _ _).mono ?_
                rintro e w6 ⟨v6, rfl, o6, hk6⟩
                obtain ⟨la6, lc6, rfl, _⟩ := o6.ints
                have y6 := y5.kept hk6
                have hs6 := hk6.size
                have xz := Cells.new w6 28 #[.slice la6 zs.length lc6]
                have ka : Kept w6 (w6.alloc (.cells #[.slice la6 zs.length lc6] 28)) := Kept.alloc (Below.refl _ _) _
                have y7 := y6.kept ka
                have cz := xz.cell 0
                have cy := y7.cell 0
                have fy := y7.frozen 0
                have K7 := (K5.trans hk6).trans ka
                have O7 := o6.kept ka
                simp only [World.size_alloc] at hs6
                clear hT cx5 x5 y5 y6
                go_wp2_with fail
                have q := (y7.set1 (.slice la6 zs.length lc6)).cell 0
                refine bodyPost_ret (v := .tuple #[.agg #[.slice la6 zs.length lc6], .bool false]) (by simp [results, Try.results19, go_sem, q]) rfl ⟨_, by rw [HC.out], ?_, Kept.set K7 (by simp) _⟩
                rw [HC.out]
                rcases O7 with ⟨h1, h2⟩ | ⟨g3, c3, h1, h2, h3, h4⟩
                · exact .inl ⟨h1, h2⟩
                · simp only [World.size_alloc] at h2
                  exact .inr ⟨g3, c3, h1, by omega, h3, h4.other (p := ⟨w.heap.size + 1, 0, none⟩) (by intro h; simp at h <;> omega) _⟩
              | some b =>
                have hfr : freeP 4 b = true := List.find?_some hff
                have hble := b.2.2.1
                have hbs : 4 ≤ b.1.size := by simp [freeP] at hfr; omega
                have hT := fun (u : World) (so : Option Addr) (sc : Nat) (hu : Kept w u) (hS : Ints u so [name, v, 0]) => takeFilled_yes u ao so cap sc zs [name, v, 0] 3 4 b (Ints.kept HI.out hu) hS (by simp) (by simp) hl HOK.out (by omega) (by omega) (by omega) hff
                rw [cell_sets (n := name) (v := v) hbs] at hT
                simp only [List.length_cons, List.length_nil, Nat.zero_add, Nat.reduceAdd] at hT
                have e1 : propC zs obj name v = ((((takeL zs b.1 3 4).set (b.1.at' + 1) name).set (b.1.at' + 2) v).set (tailP a ps) (8 * ((b.1.at' : Nat) : Int) + 7), true) := by rw [HS.out, setC_new HAl.out hna hff HA.out]
                have hyl := takeL_length zs b.1 3 4
                have htl : tailP a ps < zs.length := tailP_lt HAl.out ha3
                have HTl := fun (u : World) (hu : Kept w3 u) => tail_ok u ca cc zs ps a (hz zs (a + 1)) (hAt3.kept hu) hl (by omega) (by omega) HLE.out
                obtain ⟨T, hT0⟩ : ∃ T : Nat, tailP a ps = T := ⟨_, rfl⟩
                obtain ⟨at', ha'⟩ : ∃ at' : Nat, b.1.at' = at' := ⟨_, rfl⟩
                obtain ⟨ys, hys⟩ : ∃ ys, ((takeL zs b.1 3 4).set (at' + 1) name).set (at' + 2) v = ys := ⟨_, rfl⟩
                rw [ha'] at hT e1
                rw [hys] at hT e1
                rw [hT0] at e1 HTl htl
                have hyl : ys.length = zs.length := by rw [← hys, List.length_set, List.length_set]; exact hyl
                rw [ha'] at hble
                have HTl' : Hid _ := HTl
                have HC : Hid (propC zs obj name v = (ys.set T (8 * (at' : Int) + 7), true)) := e1
                have HT : Hid _ := hT
                have ha2 : at' < 2000 := by omega
                have hfit : 0 < ys.length := by omega
                have hyb : ys.length ≤ 1048576 := by omega
                have hTy : T < ys.length := by omega
                have HYZ : Hid (ys.length = zs.length) := hyl
                clear hna hff HCp HOA e1 hT hfr hbs hble hys ha' hT0 hyl HTl hAt3 HS HYes HRo htl
                go_wp2_with fail
                refine hNa.mono ?_
                rintro e w4 ⟨rfl, hk4⟩
                have kC : Kept w4 (w4.alloc (.cells #[.int .i64 0, .int .i64 0, .int .i64 0, .int .i64 0] 66)) := Kept.alloc (Below.refl _ _) _
                have kL : Kept (w4.alloc (.cells #[.int .i64 0, .int .i64 0, .int .i64 0, .int .i64 0] 66)) ((w4.alloc (.cells #[.int .i64 0, .int .i64 0, .int .i64 0, .int .i64 0] 66)).alloc (.cells #[.int .i64 name, .int .i64 v, .int .i64 0] 3)) := Kept.alloc (Below.refl _ _) _
                have K5 := ((K3.trans hk4).trans kC).trans kL
                have k35 : Kept w3 _ := (hk4.trans kC).trans kL
                have x5 := (x3.kept hk4).kept kC
                have y5 := ((y3.kept hk4).kept kC).kept kL
                have B5 := ((xB3.kept hk4).kept kC).kept kL
                have cx5 := x5.cell 0
                have hs4 := hk4.size
                have hsv := lits_ints (w4.alloc (.cells #[.int .i64 0, .int .i64 0, .int .i64 0, .int .i64 0] 66)) [name, v, 0] #[.int .i64 name, .int .i64 v, .int .i64 0] rfl (by simp only [List.mem_cons, List.not_mem_nil, or_false]; rintro z (rfl | rfl | rfl); exact hn; exact hv; omega)
                have hs1 : (w4.alloc (.cells #[.int .i64 0, .int .i64 0, .int .i64 0, .int .i64 0] 66)).heap.size = w4.heap.size + 1 := World.size_alloc _ _
                have hT := HT.out _ _ 3 K5 hsv
                rw [hs1] at hT
                have lB := xB3.lt
                clear hNa cB3 xB3 x3 y3 HT cx4
                go_wp2_with fail
                refine hT.mono ?_
                rintro e w6 ⟨v6, rfl, o6, hk6⟩
                rcases o6 with ⟨h1, h2⟩ | ⟨g3, c3, rfl, hg3, hc3, hR3⟩
                · rw [h2] at hfit; simp at hfit
                have y6 := y5.kept hk6
                have B6 := B5.kept hk6
                have hs6 := hk6.size
                simp only [World.size_alloc] at hs6 hg3
                have lg3 := hR3.lt
                have xz := Cells.new w6 28 #[.slice (some ⟨g3, 0, none⟩) ys.length c3]
                have ka : Kept w6 (w6.alloc (.cells #[.slice (some ⟨g3, 0, none⟩) ys.length c3] 28)) := Kept.alloc (Below.refl _ _) _
                have y7 := y6.kept ka
                have B7 := B6.kept ka
                have cz := xz.cell 0
                have K7 := (K5.trans hk6).trans ka
                have k37 := (k35.trans hk6).trans ka
                have R7 := hR3.kept ka
                clear hT hs1 cx5 x5 y5 y6 B5 B6 hsv
                go_wp2_with fail
                have kd : Kept (w6.alloc (.cells #[.slice (some ⟨g3, 0, none⟩) ys.length c3] 28)) (w6.alloc (.cells #[.slice (some ⟨g3, 0, none⟩) ys.length c3] 28)).drew := (Below.refl _ (w6.alloc (.cells #[.slice (some ⟨g3, 0, none⟩) ys.length c3] 28))).drew
                have zd := xz.kept kd
                have Bd := B7.kept kd
                have cz := zd.cell 0
                have cb0 := Bd.cell 0
                have cb1 := Bd.cell 1
                have cb2 := Bd.cell 2
                have hTl := HTl'.out _ (k37.trans kd)
                have Rd := R7.kept kd
                have lT : T < ys.length := hTy
                have pT : (T : Int) < (ys.length : Int) := by omega
                have p0 : (0 : Int) ≤ (T : Int) := by omega
                have tT : ((T : Int)).toNat = T := by omega
                go_region_with (first | (go_at_call 50; refine hTl.mono ?_; rintro e w9 ⟨rfl, hk9⟩; have R9 := Rd.kept hk9; have z9 := zd.kept hk9; have cz9 := z9.cell 0; have cg9 := R9.cell (j := T) lT; have fg9 := R9.frozen T) | (go_at_call 26; refine (impl_RefOf_ok _ _ _).mono ?_; rintro e wx ⟨rfl, rfl⟩))
                all_goals (
                  have y9 := (y7.kept kd).kept hk9
                  have R10 := R9.set (k := T) (v := vRef 7 (at' : Int)) lT (by rw [vRef_yes (by omega)]; omega)
                  have z10 := z9.other (p := ⟨g3, T, none⟩) (by simp; omega) (.int .i64 (vRef 7 (at' : Int)))
                  have y10 := y9.other (p := ⟨g3, T, none⟩) (by simp; omega) (.int .i64 (vRef 7 (at' : Int)))
                  have K10 := ((K7.trans kd).trans hk9).set (p := ⟨g3, T, none⟩) (by simp; omega) (.int .i64 (vRef 7 (at' : Int)))
                  have q10 := z10.cell 0
                  have e10 := y10.cell 0
                  have f10 := y10.frozen 0
                  have HLT : Hid ((ys.set T (vRef 7 (at' : Int))).length = ys.length) := by simp [Hid]
                  clear cz cb0 cb1 cb2 cz9 cg9 fg9
                  go_wp2_with fail
                  have q := (y10.set1 (.slice (some ⟨g3, 0, none⟩) ys.length c3)).cell 0
                  refine bodyPost_ret (v := .tuple #[.agg #[.slice (some ⟨g3, 0, none⟩) ys.length c3], .bool true]) (by simp [results, Try.results19, go_sem, q]) rfl ⟨_, by rw [HC.out], ?_, Kept.set K10 (by simp) _⟩
                  rw [HC.out, ← vRef_yes (k := 7) (a := (at' : Int)) (by omega)]
                  exact .inr ⟨g3, c3, by rw [HLT.out], by omega, by rw [HLT.out]; exact hc3, R10.other (p := ⟨w.heap.size + 1, 0, none⟩) (by intro h; simp at h <;> omega) _⟩)
          · have hdz : decide (v' ≠ 0) = true := by simpa using h0
            rw [hdz] at hRo HRd
            have HC : Hid _ := HRo.out HRd.out
            go_wp2_with fail
            refine hRo.mono ?_
            rintro e w3 ⟨rfl, hk3⟩
            have K3 := hKc.trans hk3
            have cx3 := (xc.kept hk3).cell 0
            have y3 := yc.kept hk3
            have hs3 := hk3.size
            have hCp := HCp.out _ K3
            clear hRo cB HCp HOA
            go_wp2_with fail
            refine hCp.mono ?_
            rintro e w4 ⟨g2, c2, rfl, hg2, hc2, hR2, hk4⟩
            have y4 := y3.kept hk4
            have cy4 := y4.cell 0
            have fy4 := y4.frozen 0
            clear hCp cx3
            go_wp2_with fail
            have q := (y4.set1 (.slice (some ⟨g2, 0, none⟩) zs.length c2)).cell 0
            refine bodyPost_ret (v := .tuple #[.agg #[.slice (some ⟨g2, 0, none⟩) zs.length c2], .bool false]) (by simp [results, Try.results19, go_sem, q]) rfl ⟨_, by rw [HC.out], by rw [HC.out]; exact .inr ⟨g2, c2, rfl, by omega, hc2, hR2.other (by intro h; simp at h <;> omega) _⟩, Kept.set (K3.trans hk4) (by simp) _⟩
theorem PropSet_both (zs : List Int) (obj name v : Int) (hl : zs.length ≤ 1048576) (ho : -9223372036854775808 ≤ obj ∧ obj ≤ 9223372036854775807) (hn : -9223372036854775808 ≤ name ∧ name ≤ 9223372036854775807) (hv : -9223372036854775808 ≤ v ∧ v ≤ 9223372036854775807) : ∃ (rs : List Int) (ok : Bool), rs.length ≤ 1048576 ∧
    (∀ (w : World) (ao : Option Addr) (cap : Nat), Ints w ao zs → Calls Try.prog 19 #[.agg #[.slice ao zs.length cap], .int .i64 obj, .int .i64 name, .int .i64 v] w fun e w' => ∃ u, e = .returned (.tuple #[.agg #[u], .bool ok]) ∧ OwnR w' w.heap.size u rs ∧ Kept w w') ∧
    (∀ (w : World) (ao : Option Addr) (cap : Nat), Ints w ao zs → Calls Try.prog 18 #[.agg #[.slice ao zs.length cap], .int .i64 obj, .int .i64 name, .int .i64 v] w fun e w' => ∃ u, e = .returned (.tuple #[.agg #[u], .bool ok]) ∧ OwnR w' w.heap.size u rs ∧ Kept w w') :=
  ⟨(propC zs obj name v).1, (propC zs obj name v).2, by have := propC_len zs obj name v; omega, fun w ao cap hI => impl_PropSet_ok w ao cap zs obj name v hI hl ho hn hv, fun w ao cap hI => (spec_PropSet_ok w ao cap zs obj name v hI hl ho hn hv).mono (fun _ _ ⟨u, h1, h2, h3, _⟩ => ⟨u, h1, h2, h3⟩)⟩
end Go.Proofs.Ythkhlmbhickdbaa
