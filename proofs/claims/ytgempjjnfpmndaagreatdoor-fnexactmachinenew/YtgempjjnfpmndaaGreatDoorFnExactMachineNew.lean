/-
  The law FnExactMachineNew is proved: at every unit and number impl.MachineNew answers as its model, writes nothing into the unit, and its answer owns its memory; the program's table opForms lies as its text lays it.
-/
import Derived.Test.YtgempjjnfpmndaaGreatDoorRows
import Derived.Test.YtgempjjnfpmndaaGreatDoorCards
import Derived.Test.YtgempjjnfpmndaaGreatDoorTie
import Derived.ChangeVars
import Derived.Stop.Joined
import Derived.SevenTiedAt
import Derived.OpenVars
import Derived.Deep.RegionWith
import Derived.Test.YtgempjjnfpmndaaGreatDoorDoorF
import Derived.Test.YtgempjjnfpmndaaGreatDoorGrpMp
import Derived.Test.YtgempjjnfpmndaaGreatDoorZMchV
import Derived.Test.YtgempjjnfpmndaaGreatDoorGrpMu
import Derived.Test.YtgempjjnfpmndaaGreatDoorGrpUb
import Derived.Test.YtgempjjnfpmndaaGreatDoorGrqMn
namespace Go.Proofs.YtgempjjnfpmndaaGreatDoor.fnExactMachineNew
open Go.ChangeShapes Go.WideShapes Go.ChangeAt Go.RowKit
set_option linter.unusedVariables false

theorem own : ownKnob Tryz.prog.godebug = none := by kernel_rfl

/-- What the listed variable holds. -/
def EnvV (w : World) : Prop := Forms w
theorem env_of_laid {W : World} (h : laidMetH Tryz.prog Rows.fnExactMachineNewRow.laid W) : EnvV W := by
  have h' : laidMet Tryz.prog Rows.fnExactMachineNewRow.laid W := h
  obtain ⟨ps, ⟨g4, t4, cs4, f4, p4, q4, hg4, ht4, hv4, hd4, _, _⟩, _⟩ := h'
  exact forms_of hg4 ht4 hv4 hd4
noncomputable def laidWorld (os : Os) : World :=
  { World.holding Tryz.prog os ⟨#[], #[], []⟩ with heap := (World.holding Tryz.prog os ⟨#[], #[], []⟩).heap.modify 0 (layF Rows.laid_loop_example_g00242_impl_opForms) }
set_option maxRecDepth 100000 in
theorem laidWorld_met (os : Os) (args : Array Value) : laidMetH Tryz.prog Rows.fnExactMachineNewRow.laid ((laidWorld os).forCall (fun _ _ => 0) ⟨#[], args, []⟩).memory :=
  laidMetH_of_parts (laidMet_of_run' 8 (by kernel_rfl) (by kernel_rfl)) (by kernel_rfl)
set_option maxHeartbeats 8000000 in
set_option maxRecDepth 100000 in
theorem walk (w : World) (hE : EnvV w) (ca0 ta0 : Option Addr) (cc0 tc0 : Nat) (cs0 : List Cod) (ts0 : List ByteArray) (hF0 : FitC cs0) (hC0 : CodsA w ca0 cs0) (hG0 : FitT ts0) (hS0 : StA w ta0 ts0) (a1 : Int) (w1 : (Lit.int .i64 a1).wf = true) :
    Calls Tryz.prog 5 #[.agg #[.slice ca0 cs0.length cc0, .slice ta0 ts0.length tc0], .int .i64 a1] w fun e w' => e = .returned (.bool true) ∧ Kept w w' := by
  have hFm : Forms w := hE
  obtain ⟨WX, hWX⟩ : ∃ x, w.alloc (.cells #[.slice ca0 cs0.length cc0, .slice ta0 ts0.length tc0] 25) = x := ⟨_, rfl⟩
  have bX : Cells WX w.heap.size 25 #[.slice ca0 cs0.length cc0, .slice ta0 ts0.length tc0] := hWX ▸ Cells.new w _ _
  have HB : Hid (∀ u, Kept WX u → u.cell? ⟨w.heap.size, 0, none⟩ = some (.slice ca0 cs0.length cc0) ∧ u.cell? ⟨w.heap.size, 1, none⟩ = some (.slice ta0 ts0.length tc0)) := fun u hu => ⟨(bX.kept hu).cell 0, (bX.kept hu).cell 1⟩
  have k0 : Kept w WX := hWX ▸ Kept.alloc (Below.refl _ _) _
  have HK0 : Hid (Kept w WX) := k0
  have hSz := szUnit_ok WX ca0 ta0 cc0 tc0 cs0 ts0 1048576 (hC0.kept k0) hF0 (hS0.kept k0) hG0 (by decide) (by decide)
  have LC : Hid (blkC cs0 + blkT ts0 ≤ 1048576 → (cs0.length ≤ 1048576 ∧ (∀ c ∈ cs0, c.ss.length ≤ 1048576) ∧ sumC cs0 ≤ 1048576) ∧ ts0.length ≤ 1048576) := fun h => by
    unfold blkC blkT at h
    refine ⟨⟨by omega, fun c hc => ?_, by omega⟩, by omega⟩
    have := sumC_mem hc
    omega
  have HTo : Hid (blkC cs0 + blkT ts0 ≤ 1048576 → ∀ u, Kept WX u → Calls Tryz.prog 15 #[.agg #[.slice ca0 cs0.length cc0, .slice ta0 ts0.length tc0]] u fun e w' => ∃ g h, e = .returned (.agg #[slB g cs0.length cs0.length, slB h ts0.length ts0.length]) ∧ (u.heap.size ≤ g ∧ u.heap.size ≤ h) ∧ CodX w' g cs0 ∧ RowT w' h ts0 ts0.length ∧ Kept u w') := fun hL u hu => toUnit_x u ca0 ta0 cc0 tc0 cs0 ts0 (hC0.kept (k0.trans hu)) (hS0.kept (k0.trans hu)) (LC.out hL).1.1 (LC.out hL).1.2.1 (LC.out hL).2
  obtain ⟨M, hM⟩ : ∃ x, newM cs0 ts0 a1 = x := ⟨_, rfl⟩
  obtain ⟨D, hD⟩ : ∃ x, newO cs0 ts0 a1 = x := ⟨_, rfl⟩
  have HSp : Hid (blkC cs0 + blkT ts0 ≤ 1048576 → ∀ u g h, CodX u g cs0 → RowT u h ts0 ts0.length → Calls Tryz.prog 14 #[.agg #[slB g cs0.length cs0.length, slB h ts0.length ts0.length], .int .i64 a1] u fun e w' => ∃ h', e = .returned (.tuple #[.agg (mchC h' M), .bool D]) ∧ MchA w' h' M ∧ Kept u w') := fun hL u g h h1 h2 => hM ▸ hD ▸ spec_MachineNew_ok u g h cs0 ts0 a1 w1 h1 h2 (LC.out hL).1.1 (LC.out hL).1.2.1 (LC.out hL).2
  have HIm : Hid (blkC cs0 + blkT ts0 ≤ 1048576 → ∀ u g h, Kept WX u → CodX u g cs0 → RowT u h ts0 ts0.length → Calls Tryz.prog 16 #[.agg #[slB g cs0.length cs0.length, slB h ts0.length ts0.length], .int .i64 a1] u fun e w' => ∃ hI, e = .returned (.tuple #[.agg (mchC hI M), .bool D]) ∧ OwnM w' u.heap.size w'.heap.size hI M ∧ (∀ W', Fro u.heap.size w' W' → MchA W' hI M) ∧ Kept u w') := fun hL u g h hu h1 h2 => hM ▸ hD ▸ impl_new_ok u g h cs0 ts0 a1 w1 h1 h2 (LC.out hL).1.1 (LC.out hL).1.2.1 (LC.out hL).1.2.2 (LC.out hL).2 (hFm.kept (k0.trans hu))
  have HLM : Hid (blkC cs0 + blkT ts0 ≤ 1048576 → MchLe M) := fun hL => by
    rw [← hM]
    have h1 := LC.out hL
    unfold newM
    split
    · rename_i ho
      have hn : 2 ≤ a1 ∧ a1 ≤ 2000 := by
        unfold newO at ho
        simp only [Bool.and_eq_true, decide_eq_true_eq] at ho
        exact ho.1
      exact ⟨hL, by show (newS cs0 a1.toNat).1.length ≤ 1048576; rw [newS_len]; omega, by simp, by simp, by simp, by simp, by simp [blkT, sumT], by simp⟩
    · exact ⟨by simp [blkC, blkT, sumC, sumT], by simp, by simp, by simp, by simp, by simp, by simp [blkT, sumT], by simp⟩
  have HEq : Hid (blkC cs0 + blkT ts0 ≤ 1048576 → ∀ u h1 h2, MchA u h1 M → MchA u h2 M → Calls Tryz.prog 10 #[.agg (mchC h1 M), .agg (mchC h2 M)] u fun e w' => e = .returned (.bool true) ∧ Kept u w') := fun hL u h1 h2 a b => eqMachine_ok u h1 h2 M a b (HLM.out hL)
  have HEu : Hid (blkC cs0 + blkT ts0 ≤ 1048576 → ∀ u g h g' h', CodX u g cs0 → RowT u h ts0 ts0.length → CodX u g' cs0 → RowT u h' ts0 ts0.length → Calls Tryz.prog 17 #[.agg #[slB g cs0.length cs0.length, slB h ts0.length ts0.length], .agg #[slB g' cs0.length cs0.length, slB h' ts0.length ts0.length]] u fun e w' => e = .returned (.bool true) ∧ Kept u w') := fun hL u g h g' h' a b c d => eqUnit_ok u _ _ _ _ _ _ _ _ cs0 ts0 (CodX.codsO a).all (CodX.codsO c).all b.done d.done (LC.out hL).1.1 (LC.out hL).1.2.1 (LC.out hL).2
  have HMu : Hid (blkC cs0 + blkT ts0 ≤ 1048576 → ∀ u lo hi g h, (lo ≤ g ∧ g < hi) → (lo ≤ h ∧ h < hi) → hi ≤ u.heap.size → CodW u lo hi g cs0 → WrI u h 9 ts0.length → Calls Tryz.prog 18 #[.agg #[slB g cs0.length cs0.length, slB h ts0.length ts0.length], .int .i64 1] u fun e w' => (∃ r : Nat, e = .returned (.int .i64 (r : Int))) ∧ Tr lo hi u w') := fun hL u lo hi g h a b c d e => (markUnit_w u lo hi g h cs0 ts0 1 a b c d e (LC.out hL).1.1 (LC.out hL).1.2.2 (LC.out hL).2 (by omega) (by omega)).mono (fun _ _ ⟨⟨r, h1, _, _⟩, h2⟩ => ⟨⟨r, h1⟩, h2⟩)
  have HWR : Hid (∀ u g, RowT u g ts0 ts0.length → WrI u g 9 ts0.length) := fun u g h => h.wr
  obtain ⟨nc, hnc⟩ : ∃ y, cs0.length = y := ⟨_, rfl⟩
  obtain ⟨nt, hnt⟩ : ∃ y, ts0.length = y := ⟨_, rfl⟩
  rw [hnc, hnt] at HB HTo HSp HIm HEu HMu hSz
  rw [hnt] at HWR
  rw [hnc, hnt] at hWX ⊢
  have hDD : (D != D) = false := by simp
  obtain ⟨a0, a1'⟩ := HB.out _ (Below.refl _ _)
  clear hM hD hC0 hF0 hS0 hG0 hFm hE bX k0 hnc hnt
  go_enter Tryz.func5, Tryz.ntmps5
  go_upto_region 2 with (fail)
  try simp only [hWX]
  clear hWX
  go_wp2_with fail
  refine hSz.mono ?_
  rintro e w1 ⟨⟨r, rfl, hr⟩, k1⟩
  clear a0 a1'
  rcases hr with ⟨_, hd, hLe⟩ | rfl
  rotate_left
  · go_wp2_with fail
    go_ret
    exact ⟨rfl, Kept.trans HK0.out k1⟩
  have HLe : Hid _ := hLe
  obtain ⟨a0, a1'⟩ := HB.out _ k1
  have hTo := HTo.out HLe.out _ k1
  clear hLe hSz
  go_wp2_with fail
  refine hTo.mono ?_
  rintro e w2 ⟨p0, p1, rfl, _, C2, T2, k2'⟩
  have hSp := HSp.out HLe.out _ _ _ C2 T2
  have k2 := k1.trans k2'
  clear hTo k2' C2 T2 k1 a0 a1'
  go_wp2_with fail
  refine hSp.mono ?_
  rintro e w3 ⟨hs, rfl, A3, k3'⟩
  have k3 := k2.trans k3'
  go_upto_region 6 with (fail)
  obtain ⟨W3, hW3⟩ : ∃ x, w3.alloc (.cells (mchC hs M) 43) = x := ⟨_, rfl⟩
  obtain ⟨B3, hB3⟩ : ∃ x, w3.heap.size = x := ⟨_, rfl⟩
  have k33 : Kept w3 W3 := hW3 ▸ Kept.alloc (Below.refl _ w3) _
  have C3 : Cells W3 B3 43 (mchC hs M) := hB3 ▸ hW3 ▸ Cells.new w3 _ _
  have HM3 : Hid (∀ u, Kept W3 u → Cells u B3 43 (mchC hs M)) := fun u hu => C3.kept hu
  have HA3 : Hid (∀ u, Kept W3 u → MchA u hs M) := fun u hu => (A3.kept k33).kept hu
  have K3 : Hid (Kept WX W3) := k3.trans k33
  try simp only [hW3]
  try simp only [hB3]
  clear hW3 hB3 hSp k2 k3' A3 k3 k33 C3
  obtain ⟨a0, a1'⟩ := HB.out _ K3.out
  have hTo := HTo.out HLe.out _ K3.out
  go_wp2_with fail
  refine hTo.mono ?_
  rintro e w4 ⟨g4, h4, rfl, ⟨lg, lh⟩, C4, T4, k4⟩
  go_upto_region 7 with (fail)
  obtain ⟨W4, hW4⟩ : ∃ x, w4.alloc (.cells #[slB g4 nc nc, slB h4 nt nt] 38) = x := ⟨_, rfl⟩
  obtain ⟨B4, hB4⟩ : ∃ x, w4.heap.size = x := ⟨_, rfl⟩
  have k44 : Kept w4 W4 := hW4 ▸ Kept.alloc (Below.refl _ w4) _
  have D4 : Cells W4 B4 38 #[slB g4 nc nc, slB h4 nt nt] := hB4 ▸ hW4 ▸ Cells.new w4 _ _
  have HU4 : Hid (∀ u, Kept W4 u → u.cell? ⟨B4, 0, none⟩ = some (slB g4 nc nc) ∧ u.cell? ⟨B4, 1, none⟩ = some (slB h4 nt nt)) := fun u hu => ⟨(D4.kept hu).cell 0, (D4.kept hu).cell 1⟩
  have HC4 : Hid (∀ u, Kept W4 u → CodX u g4 cs0 ∧ RowT u h4 ts0 nt) := fun u hu => ⟨(C4.kept k44).kept hu, (T4.on k44).on hu⟩
  have HW4 : Hid (CodW w4 W3.heap.size w4.heap.size g4 cs0 ∧ WrI w4 h4 9 nt) := ⟨CodX.wr C4 lg, HWR.out _ _ T4⟩
  have HI4 : Hid ((W3.heap.size ≤ g4 ∧ g4 < w4.heap.size) ∧ (W3.heap.size ≤ h4 ∧ h4 < w4.heap.size)) := ⟨⟨lg, by obtain ⟨vs, hv, _⟩ := C4; exact hv.lt⟩, ⟨lh, by obtain ⟨vs, hv, _⟩ := T4; exact hv.lt⟩⟩
  have K34 : Hid (Kept W3 W4) := k4.trans k44
  have K44 : Hid (Kept w4 W4) := k44
  have KX4 : Hid (Kept WX W4) := Kept.trans K3.out K34.out
  have SZ4 : Hid (W3.heap.size ≤ w4.heap.size ∧ w4.heap.size = B4 ∧ B4 < W4.heap.size) := ⟨k4.size, hB4, D4.lt⟩
  have SB3 : Hid (B3 < W3.heap.size) := (HM3.out _ (Below.refl _ _)).lt
  try simp only [hW4]
  try simp only [hB4]
  clear hW4 hB4 hTo lg lh C4 T4 k4 k44 D4 a0 a1'
  obtain ⟨b0, b1⟩ := HU4.out _ (Below.refl _ _)
  have hC4 := HC4.out _ (Below.refl _ _)
  have hIm := HIm.out HLe.out _ _ _ KX4.out hC4.1 hC4.2
  clear hC4
  go_wp2_with fail
  refine hIm.mono ?_
  rintro e w5 ⟨hI, rfl, O5, F5, k5⟩
  go_upto_region 8 with (fail)
  obtain ⟨W5, hW5⟩ : ∃ x, w5.alloc (.cells (mchC hI M) 43) = x := ⟨_, rfl⟩
  obtain ⟨B5, hB5⟩ : ∃ x, w5.heap.size = x := ⟨_, rfl⟩
  have k55 : Kept w5 W5 := hW5 ▸ Kept.alloc (Below.refl _ w5) _
  have C5 : Cells W5 B5 43 (mchC hI M) := hB5 ▸ hW5 ▸ Cells.new w5 _ _
  have HF5 : Hid (∀ W', Fro W4.heap.size W5 W' → MchA W' hI M) := fun W' hf => F5 W' ((Fro.kept k55).trans hf)
  have HO5 : Hid (OwnM W5 W4.heap.size w5.heap.size hI M) := O5.tr (Tr.of (lo := 0) (hi := 0) k55)
  have SZ5 : Hid (W4.heap.size ≤ w5.heap.size ∧ w5.heap.size = B5 ∧ B5 < W5.heap.size) := ⟨k5.size, hB5, C5.lt⟩
  have HM5 : Hid (Cells W5 B5 43 (mchC hI M)) := C5
  have K45 : Hid (Kept W4 W5) := k5.trans k55
  have K35 : Hid (Kept W3 W5) := Kept.trans K34.out K45.out
  have KX5 : Hid (Kept WX W5) := Kept.trans K3.out K35.out
  try simp only [hW5]
  try simp only [hB5]
  clear hW5 hB5 hIm O5 F5 k5 k55 C5 b0 b1
  have x0 := (HM3.out _ K35.out).m0
  have x1 := (HM3.out _ K35.out).m1
  have x2 := (HM3.out _ K35.out).m2
  have x3 := (HM3.out _ K35.out).m3
  have x4 := (HM3.out _ K35.out).m4
  have x5 := (HM3.out _ K35.out).m5
  have x6 := (HM3.out _ K35.out).m6
  have x7 := (HM3.out _ K35.out).m7
  have x8 := (HM3.out _ K35.out).m8
  have x9 := (HM3.out _ K35.out).m9
  have x10 := (HM3.out _ K35.out).m10
  have x11 := (HM3.out _ K35.out).m11
  have y0 := HM5.out.m0
  have y1 := HM5.out.m1
  have y2 := HM5.out.m2
  have y3 := HM5.out.m3
  have y4 := HM5.out.m4
  have y5 := HM5.out.m5
  have y6 := HM5.out.m6
  have y7 := HM5.out.m7
  have y8 := HM5.out.m8
  have y9 := HM5.out.m9
  have y10 := HM5.out.m10
  have y11 := HM5.out.m11
  have hE1 := HEq.out HLe.out W5 hI hs (HF5.out _ ⟨Nat.le_refl _, fun _ _ _ => rfl⟩) (HA3.out _ K35.out)
  go_wp2_with fail
  refine hE1.mono ?_
  rintro e w6 ⟨rfl, k6⟩
  have kd : Kept w6 w6.drew := (Below.refl _ w6).drew
  have K56 : Hid (Kept W5 w6.drew) := k6.trans kd
  have KX6 : Hid (Kept WX w6.drew) := Kept.trans KX5.out K56.out
  have K46 : Hid (Kept W4 w6.drew) := Kept.trans K45.out K56.out
  have hTo := HTo.out HLe.out _ KX6.out
  clear hE1 k6 kd x0 x1 x2 x3 x4 x5 x6 x7 x8 x9 x10 x11 y0 y1 y2 y3 y4 y5 y6 y7 y8 y9 y10 y11
  obtain ⟨a0, a1'⟩ := HB.out _ KX6.out
  obtain ⟨b0, b1⟩ := HU4.out _ K46.out
  go_upto_region 10 with (fail)
  go_region_with (first
    | (have _t := kq; go_at_call 17; refine (HEu.out HLe.out _ _ _ _ _ (HC4.out _ (Kept.trans K46.out kq)).1 (HC4.out _ (Kept.trans K46.out kq)).2 C7 T7).mono ?_; rintro e w8 ⟨rfl, kq8⟩)
    | (go_at_call 15; refine hTo.mono ?_; rintro e w7 ⟨q0, q1, rfl, _, C7, T7, kq⟩; clear b0 b1; obtain ⟨b0, b1⟩ := HU4.out _ (Kept.trans K46.out kq)))
  all_goals (
    have K58 : Hid (Kept W5 w8) := Kept.trans K56.out (kq.trans kq8)
    have K48 : Hid (Kept W4 w8) := Kept.trans K45.out K58.out
    have K38 : Hid (Kept W3 w8) := Kept.trans K35.out K58.out
    have KX8 : Hid (Kept WX w8) := Kept.trans KX5.out K58.out
    clear kq kq8 C7 T7 hTo a0 a1' b0 b1
    obtain ⟨b0, b1⟩ := HU4.out _ K48.out
    have hMu := HMu.out HLe.out w8 W3.heap.size w4.heap.size g4 h4 HI4.out.1 HI4.out.2 (by have := SZ4.out; have := K48.out.size; omega) (HW4.out.1.tr (Tr.of (Kept.trans K44.out K48.out))) (HW4.out.2.tr (Tr.of (lo := 0) (hi := 0) (Kept.trans K44.out K48.out)))
    go_wp2_with fail
    refine hMu.mono ?_
    rintro e w9 ⟨⟨r9, rfl⟩, t9⟩
    have K39 : Hid (Kept W3 w9) := Tr.kept K38.out t9 (Nat.le_refl _)
    have KX9 : Hid (Kept WX w9) := Tr.kept KX8.out t9 K3.out.size
    have FR9 : Hid (Fro W4.heap.size W5 w9) := (Fro.kept K58.out).trans (Fro.tr t9 (by have := SZ4.out; omega))
    have HM9 : Hid (Cells w9 B5 43 (mchC hI M)) := HM5.out.fro FR9.out (by have := SZ5.out; omega)
    have HO9 : Hid (OwnM w9 W4.heap.size w5.heap.size hI M) := OwnM.tr (OwnM.tr HO5.out (Tr.of (lo := 0) (hi := 0) K58.out)) t9
    have S59 : Hid (W5.heap.size ≤ w9.heap.size) := FR9.out.size
    have hd9 : decide ((r9 : Int) < 0) = false := decide_eq_false (by omega)
    have hE2 := HEq.out HLe.out w9 hI hs (HF5.out _ FR9.out) (HA3.out _ K39.out)
    clear hMu t9 b0 b1
    have x0 := (HM3.out _ K39.out).m0
    have x1 := (HM3.out _ K39.out).m1
    have x2 := (HM3.out _ K39.out).m2
    have x3 := (HM3.out _ K39.out).m3
    have x4 := (HM3.out _ K39.out).m4
    have x5 := (HM3.out _ K39.out).m5
    have x6 := (HM3.out _ K39.out).m6
    have x7 := (HM3.out _ K39.out).m7
    have x8 := (HM3.out _ K39.out).m8
    have x9 := (HM3.out _ K39.out).m9
    have x10 := (HM3.out _ K39.out).m10
    have x11 := (HM3.out _ K39.out).m11
    have y0 := HM9.out.m0
    have y1 := HM9.out.m1
    have y2 := HM9.out.m2
    have y3 := HM9.out.m3
    have y4 := HM9.out.m4
    have y5 := HM9.out.m5
    have y6 := HM9.out.m6
    have y7 := HM9.out.m7
    have y8 := HM9.out.m8
    have y9 := HM9.out.m9
    have y10 := HM9.out.m10
    have y11 := HM9.out.m11
    go_wp2_with fail
    refine hE2.mono ?_
    rintro e w10 ⟨rfl, k10⟩
    have K3a : Hid (Kept W3 w10) := Kept.trans K39.out k10
    have KXa : Hid (Kept WX w10) := Kept.trans KX9.out k10
    have HMa : Hid (Cells w10 B5 43 (mchC hI M)) := HM9.out.kept k10
    have HOa : Hid (OwnM w10 W4.heap.size w5.heap.size hI M) := OwnM.tr HO9.out (Tr.of (lo := 0) (hi := 0) k10)
    have Sa : Hid (W5.heap.size ≤ w10.heap.size) := Nat.le_trans S59.out k10.size
    have hM5 := markOwnM_ok w10 W4.heap.size w5.heap.size hI M HOa.out (by have := SZ5.out; have := Sa.out; omega)
    clear hE2 k10 hd9 x0 x1 x2 x3 x4 x5 x6 x7 x8 x9 x10 x11 y0 y1 y2 y3 y4 y5 y6 y7 y8 y9 y10 y11
    have y0 := HMa.out.m0
    have y1 := HMa.out.m1
    have y2 := HMa.out.m2
    have y3 := HMa.out.m3
    have y4 := HMa.out.m4
    have y5 := HMa.out.m5
    have y6 := HMa.out.m6
    have y7 := HMa.out.m7
    have y8 := HMa.out.m8
    have y9 := HMa.out.m9
    have y10 := HMa.out.m10
    have y11 := HMa.out.m11
    go_wp2_with fail
    refine hM5.mono ?_
    rintro e w11 ⟨tot, rfl, t11, hH11⟩
    have K3b : Hid (Kept W3 w11) := Tr.kept K3a.out t11 (by have := SZ4.out; omega)
    have KXb : Hid (Kept WX w11) := Tr.kept KXa.out t11 (by have := SZ4.out; have := K3.out.size; omega)
    have HMb : Hid (Cells w11 B5 43 (mchC hI M)) := (t11.block B5 HMa.out.lt (by have := SZ5.out; omega)).trans HMa.out
    have HHb : Hid (HeldM w11 hI M tot) := hH11
    have hH := heldOwnM_ok w11 hI M tot HHb.out
    clear hM5 t11 hH11 y0 y1 y2 y3 y4 y5 y6 y7 y8 y9 y10 y11
    have y0 := HMb.out.m0
    have y1 := HMb.out.m1
    have y2 := HMb.out.m2
    have y3 := HMb.out.m3
    have y4 := HMb.out.m4
    have y5 := HMb.out.m5
    have y6 := HMb.out.m6
    have y7 := HMb.out.m7
    have y8 := HMb.out.m8
    have y9 := HMb.out.m9
    have y10 := HMb.out.m10
    have y11 := HMb.out.m11
    have hdt : decide ((tot : Int) < 0) = false := decide_eq_false (by omega)
    go_wp2_with fail
    refine hH.mono ?_
    rintro e w12 ⟨rfl, k12⟩
    have KXc : Hid (Kept WX w12) := Kept.trans KXb.out k12
    have K3c : Hid (Kept W3 w12) := Kept.trans K3b.out k12
    have Kbc : Hid (Kept w11 w12) := k12
    clear hH k12 y0 y1 y2 y3 y4 y5 y6 y7 y8 y9 y10 y11
    obtain ⟨a0, a1'⟩ := HB.out _ KXc.out
    have hTo := HTo.out HLe.out _ KXc.out
    go_wp2_with fail
    refine hTo.mono ?_
    rintro e w13 ⟨q0, q1, rfl, _, C13, T13, k13⟩
    have KXd : Hid (Kept WX w13) := Kept.trans KXc.out k13
    have K3d : Hid (Kept W3 w13) := Kept.trans K3c.out k13
    have Kbd : Hid (Kept w11 w13) := Kept.trans Kbc.out k13
    have hIm := HIm.out HLe.out _ _ _ KXd.out C13 T13
    clear hTo C13 T13 k13 a0 a1'
    go_wp2_with fail
    refine hIm.mono ?_
    rintro e w14 ⟨hJ, rfl, _, F14, k14⟩
    go_upto_region 25 with (fail)
    obtain ⟨W14, hW14⟩ : ∃ x, w14.alloc (.cells (mchC hJ M) 43) = x := ⟨_, rfl⟩
    obtain ⟨B14, hB14⟩ : ∃ x, w14.heap.size = x := ⟨_, rfl⟩
    have k144 : Kept w14 W14 := hW14 ▸ Kept.alloc (Below.refl _ w14) _
    have C14 : Hid (Cells W14 B14 43 (mchC hJ M)) := hB14 ▸ hW14 ▸ Cells.new w14 _ _
    have A14 := F14 W14 (Fro.kept k144)
    have K3e : Hid (Kept W3 W14) := Kept.trans K3d.out (k14.trans k144)
    have Kbe : Hid (Kept w11 W14) := Kept.trans Kbd.out (k14.trans k144)
    have hE3 := HEq.out HLe.out W14 hJ hs A14 (HA3.out _ K3e.out)
    try simp only [hW14]
    try simp only [hB14]
    clear hW14 hB14 hIm F14 k14 k144 A14
    have x0 := (HM3.out _ K3e.out).m0
    have x1 := (HM3.out _ K3e.out).m1
    have x2 := (HM3.out _ K3e.out).m2
    have x3 := (HM3.out _ K3e.out).m3
    have x4 := (HM3.out _ K3e.out).m4
    have x5 := (HM3.out _ K3e.out).m5
    have x6 := (HM3.out _ K3e.out).m6
    have x7 := (HM3.out _ K3e.out).m7
    have x8 := (HM3.out _ K3e.out).m8
    have x9 := (HM3.out _ K3e.out).m9
    have x10 := (HM3.out _ K3e.out).m10
    have x11 := (HM3.out _ K3e.out).m11
    have y0 := C14.out.m0
    have y1 := C14.out.m1
    have y2 := C14.out.m2
    have y3 := C14.out.m3
    have y4 := C14.out.m4
    have y5 := C14.out.m5
    have y6 := C14.out.m6
    have y7 := C14.out.m7
    have y8 := C14.out.m8
    have y9 := C14.out.m9
    have y10 := C14.out.m10
    have y11 := C14.out.m11
    go_wp2_with fail
    refine hE3.mono ?_
    rintro e w15 ⟨rfl, k15⟩
    have Kbf : Hid (Kept w11 w15) := Kept.trans Kbe.out k15
    have hH := heldOwnM_ok w15 hI M tot (HHb.out.kept Kbf.out)
    clear hE3 k15 x0 x1 x2 x3 x4 x5 x6 x7 x8 x9 x10 x11 y0 y1 y2 y3 y4 y5 y6 y7 y8 y9 y10 y11
    have y0 := (HMb.out.kept Kbf.out).m0
    have y1 := (HMb.out.kept Kbf.out).m1
    have y2 := (HMb.out.kept Kbf.out).m2
    have y3 := (HMb.out.kept Kbf.out).m3
    have y4 := (HMb.out.kept Kbf.out).m4
    have y5 := (HMb.out.kept Kbf.out).m5
    have y6 := (HMb.out.kept Kbf.out).m6
    have y7 := (HMb.out.kept Kbf.out).m7
    have y8 := (HMb.out.kept Kbf.out).m8
    have y9 := (HMb.out.kept Kbf.out).m9
    have y10 := (HMb.out.kept Kbf.out).m10
    have y11 := (HMb.out.kept Kbf.out).m11
    go_wp2_with fail
    refine hH.mono ?_
    rintro e w16 ⟨rfl, k16⟩
    clear hH
    go_wp2_with fail
    go_ret
    exact ⟨rfl, Kept.trans HK0.out (Kept.trans KXb.out (Kept.trans Kbf.out k16))⟩)

set_option maxRecDepth 100000 in
theorem lifted (os : Os) (started : os.Started) (H : Type) (enc : TypeId × Value → H) :
    ReturnsInHanded {} Tryz.checked os 5 .any (fun w args => (Rows.fnExactMachineNewSpec.pre enc Tryz.prog Tryz.f5 [] false w args ∧ laidMetH Tryz.prog Rows.fnExactMachineNewRow.laid w) ∧ sizedMet enc Tryz.prog Tryz.f5 (OpenSpec.ofChange Rows.fnExactMachineNewSpec) false w args)
      (Rows.fnExactMachineNewSpec.post enc Tryz.prog Tryz.f5 false true false false) := by
  refine returnsInHanded_of_change_and (C := Tryz.checked) (X := fun w _ => laidMetH Tryz.prog Rows.fnExactMachineNewRow.laid w) (fun _ _ _ hh h => h.of_heap hh) own started (by kernel_rfl) Tryz.func5
    (ChangeSpec.witness_at (enc := enc) (C := Tryz.checked) (os := os) (X := fun w _ => laidMetH Tryz.prog Rows.fnExactMachineNewRow.laid w) false (laidWorld os) #[.agg #[.slice none 0 0, .slice none 0 0], .int .i64 0] 8 rfl (by kernel_rfl) (by kernel_rfl) (by kernel_rfl) (by kernel_rfl) (by kernel_rfl) (laidWorld_met os _)) ?_
  intro W base args ds gs before hval0 hW _ _ hL _
  have hval : ∀ (j : Nat) t v, Tryz.f5.params[j]? = some t → args[j]? = some v → Value.okWide Tryz.prog W .any base t v := hval0
  have hW' := hW
  obtain ⟨p, q, hA0, hV, rfl, hfz, hnd⟩ := hW
  have hA : DataW.TrodAll enc Tryz.prog W 0 (fun _ => true) true Tryz.f5.params.toList args.toList ds p := hA0
  rw [Tryz.params5] at hA hval
  obtain ⟨v0, vs0, d0, ds0, p0, q0, hargs0, rfl, rfl, h0, r0⟩ := trodAll_cons hA
  obtain ⟨v1, vs1, d1, ds1, p1, q1, hargs1, rfl, rfl, h1, r1⟩ := trodAll_cons r0
  obtain ⟨rfl, rfl, rfl⟩ := trodAll_nil r1
  obtain rfl : args = #[v0, v1] := by cases args; simp_all
  obtain ⟨dv, rfl⟩ : ∃ d, gs = [d] := by
    obtain ⟨_, _, _, _, d, _, e, _⟩ := trodVars_one hV
    exact ⟨d, e⟩
  clear hA0 hval0
  have hlt0 : ∀ x ∈ p0, x.block < W.heap.size := fun x hx => by simpa using hW'.lt x (by simp [hx])
  have hlt1 : ∀ x ∈ p1, x.block < W.heap.size := fun x hx => by simpa using hW'.lt x (by simp [hx])
  obtain ⟨ca0, ta0, cc0, tc0, cs0, ts0, rfl, hF0, hC0, hG0, hS0⟩ := open_unit (hval 0 25 v0 rfl rfl) h0
  obtain ⟨a1, rfl, ed1, ep1, w1⟩ := open_int Tryz.underlying3 (hval 1 3 v1 rfl rfl) h1
  refine (walk W (env_of_laid hL) ca0 ta0 cc0 tc0 cs0 ts0 hF0 hC0 hG0 hS0 a1 w1).mono fun e W' ⟨he, hk⟩ => ?_
  subst he
  refine ⟨_, rfl, _, _, _, [], p0 ++ (p1 ++ []), q, hW', ?_, ?_, Below.trodVars laid hk (by kernel_rfl) hV, hk.frame _, fun h => by cases h⟩
  · exact trodAll_cons_mk (shut_bool Tryz.underlying4 _) trodAll_mk0
  · exact (trodAll_cons_mk (Below.trod laid (by kernel_rfl) (of_decide_eq_true (by kernel_rfl)) h0 hk hlt0) (trodAll_cons_mk (Below.trod laid (by kernel_rfl) (of_decide_eq_true (by kernel_rfl)) h1 hk hlt1) trodAll_mk0))

theorem over : Rows.fnExactMachineNewRow.holds Tryz.pinned (OpenSpec.ofChange Rows.fnExactMachineNewSpec) :=
  OpenClaim.holds_of_wide 5 Tryz.f5 rfl rfl rfl rfl rfl rfl rfl ⟨rfl, rfl, rfl, rfl, rfl⟩ rfl rfl rfl rfl rfl (by kernel_rfl) Tryz.func5 (by kernel_rfl)
    (of_decide_eq_true (by kernel_rfl)) (by unfold Func.isWrapper; first | (rw [if_pos (by decide +kernel)]; kernel_rfl) | (rw [if_neg (by decide +kernel)]; exact ⟨rfl, rfl⟩))
    (fun os started H enc _ => lifted os started H enc)

theorem proved : Rows.FnExactMachineNewCardSaid :=
  Claim7.holds_tied_plain_at .later [] [.data] true (true, Rows.fnExactMachineNewCard.stood.harness.2) Rows.fnExactMachineNewCard.stood.looks
    over (fun _ h => by cases h) (by kernel_rfl) (fun _ h => by cases h) fnExactMachineNew_row_tie rfl ⟨rfl, rfl⟩ (by kernel_rfl) rfl
    (fun f fn hf hfn => by
      obtain rfl : f = 5 := Option.some.inj ((show Tryz.prog.funcNamed Rows.fnExactMachineNewRow.func = some 5 by kernel_rfl).symm.trans hf) |>.symm
      obtain rfl : fn = Tryz.f5 := (Option.some.inj (Tryz.func5.symm.trans hfn)).symm
      exact ⟨by kernel_rfl, fun j t ht => by
        rw [Tryz.params5] at ht
        have hm : t ∈ [25, 3] := by
          have := List.mem_of_getElem? (l := [25, 3]) (i := j) (a := t) (by simpa using ht)
          exact this
        have hall : ∀ t ∈ [25, 3], Tryz.prog.wantsStandIn t = false := by
          intro t ht
          simp only [List.mem_cons, List.not_mem_nil, or_false] at ht
          rcases ht with rfl | rfl <;> kernel_rfl
        exact hall t hm⟩)
    (by kernel_rfl)
#print axioms proved
end Go.Proofs.YtgempjjnfpmndaaGreatDoor.fnExactMachineNew
