/-
  The law FnExactBegins is proved: at every two Outcomes impl.Begins answers as its model, and it writes into none of them.
-/
import Derived.Test.YtcaoglghkeikoaaRows
import Derived.Test.YtcaoglghkeikoaaLinB
import Derived.Test.YtcaoglghkeikoaaBegA
import Derived.Deep.RegionWith
import Derived.Deep.RegionHeld3
import Derived.Deep.CutRange
namespace Go.Proofs.Ytcaoglghkeikoaa.fnExactBegins
open Go.ChangeShapes Go.WideShapes Go.ChangeAt Go.RowKit
set_option linter.unusedVariables false

theorem own : ownKnob Try.prog.godebug = none := by kernel_rfl

set_option maxHeartbeats 8000000 in
set_option maxRecDepth 100000 in
theorem walk (w : World) (c0 : Int) (ao0 : Option Addr) (cap0 : Nat) (ts0 : List ByteArray) (hF0 : FitT ts0) (hS0 : StA w ao0 ts0) (c1 : Int) (ao1 : Option Addr) (cap1 : Nat) (ts1 : List ByteArray) (hF1 : FitT ts1) (hS1 : StA w ao1 ts1) :
    Calls Try.prog 3 #[.agg #[.int .i64 c0, .slice ao0 ts0.length cap0], .agg #[.int .i64 c1, .slice ao1 ts1.length cap1]] w fun e w' => e = .returned (.bool true) ∧ Kept w w' := by
  obtain ⟨WX, hWX⟩ : ∃ x, (w.alloc (.cells #[.int .i64 c0, .slice ao0 ts0.length cap0] 24)).alloc (.cells #[.int .i64 c1, .slice ao1 ts1.length cap1] 24) = x := ⟨_, rfl⟩
  have k0 : Kept w WX := hWX ▸ (Kept.alloc (Below.refl _ w) _).alloc _
  have B0 : Cells WX w.heap.size 24 #[.int .i64 c0, .slice ao0 ts0.length cap0] := hWX ▸ (Cells.new w 24 #[.int .i64 c0, .slice ao0 ts0.length cap0]).alloc _
  have B1 : Cells WX (w.heap.size + 1) 24 #[.int .i64 c1, .slice ao1 ts1.length cap1] := by
    have := Cells.new (w.alloc (.cells #[.int .i64 c0, .slice ao0 ts0.length cap0] 24)) 24 #[.int .i64 c1, .slice ao1 ts1.length cap1]
    simp only [World.size_alloc] at this
    exact hWX ▸ this
  have HB : Hid (∀ v, Kept WX v → (v.cell? ⟨w.heap.size, 0, none⟩ = some (.int .i64 c0) ∧ v.cell? ⟨w.heap.size, 1, none⟩ = some (.slice ao0 ts0.length cap0)) ∧ v.cell? ⟨w.heap.size + 1, 0, none⟩ = some (.int .i64 c1) ∧ v.cell? ⟨w.heap.size + 1, 1, none⟩ = some (.slice ao1 ts1.length cap1)) := fun v hv => ⟨⟨(B0.kept hv).cell 0, (B0.kept hv).cell 1⟩, (B1.kept hv).cell 0, (B1.kept hv).cell 1⟩
  have HK0 : Hid _ := k0
  have hS := szOutcome_ok WX c0 ao0 cap0 ts0 1048576 (hS0.kept k0) hF0 (by decide) (by decide)
  by_cases hb : ((blkT ts0 : Nat) : Int) ≤ 1048576
  rotate_left
  · rw [show leftT 1048576 (blkT ts0) = -1 from if_neg hb] at hS
    obtain ⟨⟨e0, e1⟩, e2, e3⟩ := HB.out _ (Below.refl _ _)
    clear hb hS0 hF0 hS1 hF1 B0 B1 k0
    go_enter Try.func3, Try.ntmps3
    go_upto_region 1 with (fail)
    try simp only [hWX]
    clear hWX
    go_wp2_with (go_at_call 5; refine hS.mono ?_; rintro e w1 ⟨rfl, kq1⟩)
    go_ret
    exact ⟨rfl, Kept.trans HK0.out kq1⟩
  rw [show leftT 1048576 (blkT ts0) = 1048576 - ((blkT ts0 : Nat) : Int) from if_pos hb] at hS
  obtain ⟨r, hr⟩ : ∃ r, 1048576 - ((blkT ts0 : Nat) : Int) = r := ⟨_, rfl⟩
  have hd : decide (r < 0) = false := decide_eq_false (by omega)
  rw [hr] at hS
  have hl0 : ts0.length ≤ 1048576 := by unfold blkT at hb; omega
  have HS1 : Hid (∀ u, Kept WX u → Calls Try.prog 5 #[.agg #[.int .i64 c1, .slice ao1 ts1.length cap1], .int .i64 r] u fun e w' => e = .returned (.int .i64 (leftT r (blkT ts1))) ∧ Kept u w') := fun u hu => szOutcome_ok u c1 ao1 cap1 ts1 r (hS1.kept (k0.trans hu)) hF1 (by omega) (by omega)
  by_cases hb1 : ((blkT ts1 : Nat) : Int) ≤ r
  rotate_left
  · rw [show leftT r (blkT ts1) = -1 from if_neg hb1] at HS1
    obtain ⟨⟨e0, e1⟩, e2, e3⟩ := HB.out _ (Below.refl _ _)
    clear hb hb1 hr hS0 hF0 hS1 hF1 B0 B1 k0 hl0
    go_enter Try.func3, Try.ntmps3
    go_upto_region 1 with (fail)
    try simp only [hWX]
    clear hWX
    go_wp2_with (first
      | (have g := kq1; go_at_call 5; refine (HS1.out _ kq1).mono ?_; rintro e w2 ⟨rfl, kq2⟩)
      | (go_at_call 5; refine hS.mono ?_; rintro e w1 ⟨rfl, kq1⟩; clear e0 e1 e2 e3; obtain ⟨⟨e0, e1⟩, e2, e3⟩ := HB.out _ kq1))
    go_ret
    exact ⟨rfl, (Kept.trans HK0.out kq1).trans kq2⟩
  rw [show leftT r (blkT ts1) = r - ((blkT ts1 : Nat) : Int) from if_pos hb1] at HS1
  obtain ⟨s, hs⟩ : ∃ s, r - ((blkT ts1 : Nat) : Int) = s := ⟨_, rfl⟩
  have hd1 : decide (s < 0) = false := decide_eq_false (by omega)
  rw [hs] at HS1
  have hl1 : ts1.length ≤ 1048576 := by unfold blkT at hb1; omega
  have HTo0 : Hid (∀ u, Kept WX u → Calls Try.prog 7 #[.agg #[.int .i64 c0, .slice ao0 ts0.length cap0]] u fun e w' => ∃ g, e = .returned (.agg #[.int .i64 c0, .slice (some ⟨g, 0, none⟩) ts0.length ts0.length]) ∧ StA w' (some ⟨g, 0, none⟩) ts0 ∧ Kept u w') := fun u hu => (toOutcome_ok u c0 ao0 cap0 ts0 (hS0.kept (k0.trans hu)) hl0).mono (fun e w' ⟨g, h1, h2, h3, h4⟩ => ⟨g, h1, h3, h4⟩)
  have HTo1 : Hid (∀ u, Kept WX u → Calls Try.prog 7 #[.agg #[.int .i64 c1, .slice ao1 ts1.length cap1]] u fun e w' => ∃ g, e = .returned (.agg #[.int .i64 c1, .slice (some ⟨g, 0, none⟩) ts1.length ts1.length]) ∧ StA w' (some ⟨g, 0, none⟩) ts1 ∧ Kept u w') := fun u hu => (toOutcome_ok u c1 ao1 cap1 ts1 (hS1.kept (k0.trans hu)) hl1).mono (fun e w' ⟨g, h1, h2, h3, h4⟩ => ⟨g, h1, h3, h4⟩)
  obtain ⟨D, hD⟩ : ∃ D, begB ts0 ts1 = D := ⟨_, rfl⟩
  have HSp : Hid (∀ u ao bo, StA u ao ts0 → StA u bo ts1 → Calls Try.prog 6 #[.agg #[.int .i64 c0, .slice ao ts0.length ts0.length], .agg #[.int .i64 c1, .slice bo ts1.length ts1.length]] u fun e w' => e = .returned (.bool D) ∧ Kept u w') := fun u ao bo h h' => by rw [← hD]; exact spec_Begins_ok u c0 c1 ao bo _ _ ts0 ts1 h h' hl0 hl1
  have HIm : Hid (∀ u ao g, StA u ao ts0 → StA u (some ⟨g, 0, none⟩) ts1 → Calls Try.prog 8 #[.agg #[.int .i64 c0, .slice ao ts0.length ts0.length], .agg #[.int .i64 c1, .slice (some ⟨g, 0, none⟩) ts1.length ts1.length]] u fun e w' => e = .returned (.bool D) ∧ Kept u w') := fun u ao g h h' => by rw [← hD]; exact impl_Begins_ok u c0 c1 ao g _ ts0 ts1 h h' hl0 hl1
  have HEq0 : Hid (∀ u ao bo, StA u ao ts0 → StA u bo ts0 → Calls Try.prog 9 #[.agg #[.int .i64 c0, .slice ao ts0.length ts0.length], .agg #[.int .i64 c0, .slice bo ts0.length ts0.length]] u fun e w' => e = .returned (.bool true) ∧ Kept u w') := fun u ao bo h h' => eqOutcome_ok u c0 ao bo _ _ ts0 h h' hl0
  have HEq1 : Hid (∀ u ao bo, StA u ao ts1 → StA u bo ts1 → Calls Try.prog 9 #[.agg #[.int .i64 c1, .slice ao ts1.length ts1.length], .agg #[.int .i64 c1, .slice bo ts1.length ts1.length]] u fun e w' => e = .returned (.bool true) ∧ Kept u w') := fun u ao bo h h' => eqOutcome_ok u c1 ao bo _ _ ts1 h h' hl1
  obtain ⟨L0, hL0⟩ : ∃ L, ts0.length = L := ⟨_, rfl⟩
  obtain ⟨L1, hL1⟩ : ∃ L, ts1.length = L := ⟨_, rfl⟩
  rw [hL0] at HTo0 HEq0 hS
  rw [hL1] at HTo1 HEq1 HS1
  rw [hL0, hL1] at HSp HIm HB
  rw [hL0, hL1] at hWX
  simp only [hL0, hL1]
  have hDD : (D != D) = false := by simp
  obtain ⟨⟨e0, e1⟩, e2, e3⟩ := HB.out _ (Below.refl _ _)
  clear hb hb1 hr hs hS0 hF0 hS1 hF1 B0 B1 k0 hl0 hl1 hD hL0 hL1
  go_enter Try.func3, Try.ntmps3
  go_upto_region 1 with (fail)
  try simp only [hWX]
  clear hWX
  go_upto_region 8 with (first
    | (have g := kq1; go_at_call 5; refine (HS1.out _ kq1).mono ?_; rintro e w2 ⟨rfl, kq2'⟩; have kq2 := kq1.trans kq2'; obtain ⟨⟨e0, e1⟩, e2, e3⟩ := HB.out _ kq2)
    | (go_at_call 5; refine hS.mono ?_; rintro e w1 ⟨rfl, kq1⟩; clear e0 e1 e2 e3; obtain ⟨⟨e0, e1⟩, e2, e3⟩ := HB.out _ kq1))
  have kd : Kept w2 w2.drew := (Below.refl _ w2).drew
  have H0 := HB.out _ (kq2.trans kd)
  have T0 : Hid (∀ u, Kept w2 u → _) := fun u hu => HTo0.out u (kq2.trans hu)
  have T1 : Hid (∀ u, Kept w2 u → _) := fun u hu => HTo1.out u (kq2.trans hu)
  have HS : Hid (∀ u, Kept w2 u → _) := fun u hu => HB.out u (kq2.trans hu)
  obtain ⟨⟨x0, x1⟩, x2, x3⟩ := H0
  clear e0 e1 e2 e3 hS
  go_wp2_with fail
  go_region_held3 (fun w' => (w'.cell? ⟨w.heap.size, 0, none⟩ = some (.int .i64 c0) ∧ w'.cell? ⟨w.heap.size, 1, none⟩ = some (.slice ao0 L0 cap0)) ∧ w'.cell? ⟨w.heap.size + 1, 0, none⟩ = some (.int .i64 c1) ∧ w'.cell? ⟨w.heap.size + 1, 1, none⟩ = some (.slice ao1 L1 cap1))
    (first | exact HS.out _ (by assumption) | go_keep)
    ((first
        | (go_at_call 6; refine (HSp.out w4 _ _ (StA.kept S3 k4') S4).mono ?_; rintro e w5 ⟨rfl, k5'⟩; have kq5 : Kept w2 w5 := kq4.trans k5')
        | (have _t := kq3; go_at_call 7; refine (T1.out _ kq3).mono ?_; rintro e w4 ⟨g4, rfl, S4, k4'⟩; have kq4 : Kept w2 w4 := kq3.trans k4')
        | (go_at_call 7; refine (T0.out _ kd).mono ?_; rintro e w3 ⟨g3, rfl, S3, k3'⟩; have kq3 : Kept w2 w3 := kd.trans k3')))
  have K5 := kq2.trans kq5
  have HK5 : Hid _ := K5
  clear kq2 kq3 kq4 kq5 k3' k4' k5' S3 S4 T0 T1 HS x0 x1 x2 x3 kd kq1 kq2'
  obtain ⟨⟨e0, e1⟩, e2, e3⟩ := HB.out _ K5
  go_wp2_with fail
  refine (HTo0.out _ K5).mono ?_
  rintro e w6 ⟨g6, rfl, S6, k6⟩
  have hB6 : Kept w6 (w6.alloc (.cells #[.int .i64 c0, .slice (some ⟨g6, 0, none⟩) L0 L0] 27)) := Kept.alloc (Below.refl _ w6) _
  have C6 := Cells.new w6 27 #[.int .i64 c0, .slice (some ⟨g6, 0, none⟩) L0 L0]
  obtain ⟨W6, hW6⟩ : ∃ x, w6.alloc (.cells #[.int .i64 c0, .slice (some ⟨g6, 0, none⟩) L0 L0] 27) = x := ⟨_, rfl⟩
  rw [hW6] at hB6 C6
  have K6 := (K5.trans k6).trans hB6
  have S6' := S6.kept hB6
  clear e0 e1 e2 e3 K5 k6
  obtain ⟨⟨e0, e1⟩, e2, e3⟩ := HB.out _ K6
  go_upto_region 10 with (fail)
  try simp only [hW6]
  go_wp2_with fail
  refine (HTo1.out _ K6).mono ?_
  rintro e w7 ⟨g7, rfl, S7, k7⟩
  have hB7 : Kept w7 (w7.alloc (.cells #[.int .i64 c1, .slice (some ⟨g7, 0, none⟩) L1 L1] 27)) := Kept.alloc (Below.refl _ w7) _
  have C7 := Cells.new w7 27 #[.int .i64 c1, .slice (some ⟨g7, 0, none⟩) L1 L1]
  obtain ⟨W7, hW7⟩ : ∃ x, w7.alloc (.cells #[.int .i64 c1, .slice (some ⟨g7, 0, none⟩) L1 L1] 27) = x := ⟨_, rfl⟩
  rw [hW7] at hB7 C7
  have K67 := k7.trans hB7
  have K7 := K6.trans K67
  have A7 := C6.kept K67
  have S67 := S6'.kept K67
  have S7' := S7.kept hB7
  obtain ⟨b6, hb6⟩ : ∃ x, w6.heap.size = x := ⟨_, rfl⟩
  obtain ⟨b7, hb7⟩ : ∃ x, w7.heap.size = x := ⟨_, rfl⟩
  rw [hb6] at A7
  rw [hb7] at C7
  clear e0 e1 e2 e3 K6 k7 K67 S6 S6' C6 hB6
  have HX : Hid (∀ u, Kept W7 u → (u.cell? ⟨b6, 0, none⟩ = some (.int .i64 c0) ∧ u.cell? ⟨b6, 1, none⟩ = some (.slice (some ⟨g6, 0, none⟩) L0 L0)) ∧ u.cell? ⟨b7, 0, none⟩ = some (.int .i64 c1) ∧ u.cell? ⟨b7, 1, none⟩ = some (.slice (some ⟨g7, 0, none⟩) L1 L1)) := fun u hu => ⟨⟨(A7.kept hu).cell 0, (A7.kept hu).cell 1⟩, (C7.kept hu).cell 0, (C7.kept hu).cell 1⟩
  have HS6 : Hid (StA W7 (some ⟨g6, 0, none⟩) ts0) := S67
  have HS7 : Hid (StA W7 (some ⟨g7, 0, none⟩) ts1) := S7'
  obtain ⟨⟨y0, y1⟩, y2, y3⟩ := HX.out _ (Below.refl _ _)
  have HK7 : Hid (Kept WX W7) := K7
  clear S67 S7' S7 A7 C7 hB7 K7
  simp only [hb6]
  go_upto_region 11 with (fail)
  try simp only [hW7]
  try simp only [hb7]
  clear hW6 hW7 hb6 hb7
  go_wp2_with fail
  refine (HIm.out _ _ _ HS6.out HS7.out).mono ?_
  rintro e w8 ⟨rfl, k8⟩
  clear y0 y1 y2 y3
  have K8 := HK7.out.trans k8
  obtain ⟨⟨y0, y1⟩, y2, y3⟩ := HX.out _ (Below.drew k8)
  obtain ⟨⟨e0, e1⟩, e2, e3⟩ := HB.out _ (Below.drew K8)
  have hT := HTo0.out w8.drew K8.drew
  have R6 := StA.kept HS6.out (Below.drew k8)
  go_wp2_with fail
  go_cut [39] from 35 to 38 (fun s wx => s = .bool false ∧ Kept w8 wx)
  case first =>
    go_region_with (first
      | (have _t := k9; go_at_call 9; refine (HEq0.out _ _ _ (R6.kept k9) S9).mono ?_; rintro e wb ⟨rfl, kb⟩)
      | (go_at_call 7; refine hT.mono ?_; rintro e w9 ⟨g9, rfl, S9, k9⟩; clear y0 y1 y2 y3; obtain ⟨⟨y0, y1⟩, y2, y3⟩ := HX.out _ (Kept.trans (Below.drew k8) k9)))
    all_goals (go_wp2_with fail; go_meet; exact ⟨rfl, (Kept.trans (Below.drew (Below.refl _ w8)) k9).trans kb⟩)
  case rest =>
  obtain ⟨rfl, kc⟩ := hcut
  clear y0 y1 y2 y3 e0 e1 e2 e3 hT R6
  have k9 := k8.trans kc
  have K9 := K8.trans kc
  obtain ⟨⟨y0, y1⟩, y2, y3⟩ := HX.out _ (Below.drew k9)
  obtain ⟨⟨e0, e1⟩, e2, e3⟩ := HB.out _ (Below.drew K9)
  have hT := HTo1.out _ K9.drew
  have R7 := StA.kept HS7.out (Below.drew k9)
  go_wp2_with fail
  go_cut [44] from 40 to 43 (fun s wx => s = .bool false ∧ Kept W7 wx)
  case first =>
    go_region_with (first
      | (have _t := ka; go_at_call 9; refine (HEq1.out _ _ _ (R7.kept ka) Sa).mono ?_; rintro e wb ⟨rfl, kb⟩)
      | (go_at_call 7; refine hT.mono ?_; rintro e wa ⟨ga, rfl, Sa, ka⟩; clear y0 y1 y2 y3; obtain ⟨⟨y0, y1⟩, y2, y3⟩ := HX.out _ (Kept.trans (Below.drew k9) ka)))
    all_goals (go_wp2_with fail; go_meet; exact ⟨rfl, (Kept.trans (Below.drew k9) ka).trans kb⟩)
  case rest =>
  obtain ⟨rfl, ke⟩ := hcut
  clear y0 y1 y2 y3 e0 e1 e2 e3 hT R7
  go_wp2_with fail
  go_ret
  exact ⟨rfl, (Kept.trans HK0.out HK7.out).trans ke⟩

set_option maxRecDepth 100000 in
theorem lifted (os : Os) (started : os.Started) (H : Type) (enc : TypeId × Value → H) :
    ReturnsInHanded {} Try.checked os 3 .any (Rows.fnExactBeginsSpec.pre6 enc Try.prog Try.f3 Rows.fnExactBeginsRow.domain false) (Rows.fnExactBeginsSpec.post enc Try.prog Try.f3 false true false false) := by
  refine returnsInHanded_of_change (C := Try.checked) own started (by kernel_rfl) Try.func3
    (ChangeSpec.witness6 (enc := enc) (C := Try.checked) false ⟨#[], #[.agg #[.int .i64 0, .slice none 0 0], .agg #[.int .i64 0, .slice none 0 0]], []⟩ 8 (by kernel_rfl) (by kernel_rfl) (by kernel_rfl) (by kernel_rfl)) ?_
  intro W base args ds gs before hval0 hW hcnd _
  have hval : ∀ (j : Nat) t v, Try.f3.params[j]? = some t → args[j]? = some v → Value.okWide Try.prog W .any base t v := hval0
  have hW' := hW
  obtain ⟨p, q, hA0, hV, rfl, hfz, hnd⟩ := hW
  have hA : DataW.TrodAll enc Try.prog W 0 (fun _ => true) true Try.f3.params.toList args.toList ds p := hA0
  rw [Try.params3] at hA hval
  obtain ⟨v0, vs0, d0, ds0, p0, q0, hargs0, rfl, rfl, h0, r0⟩ := trodAll_cons hA
  obtain ⟨v1, vs1, d1, ds1, p1, q1, hargs1, rfl, rfl, h1, r1⟩ := trodAll_cons r0
  obtain ⟨rfl, rfl, rfl⟩ := trodAll_nil r1
  obtain rfl : args = #[v0, v1] := by cases args; simp_all
  obtain ⟨rfl, rfl⟩ := trodVars_none hV
  clear hA0 hval0
  simp only [List.append_nil] at hW'
  have hlt0 : ∀ x ∈ p0, x.block < W.heap.size := fun x hx => by simpa using hW'.lt x (by simp [hx])
  have hlt1 : ∀ x ∈ p1, x.block < W.heap.size := fun x hx => by simpa using hW'.lt x (by simp [hx])
  obtain ⟨c0, ao0, cap0, ts0, rfl, hF0, hS0⟩ := open_outcome (hval 0 24 v0 rfl rfl) h0
  obtain ⟨c1, ao1, cap1, ts1, rfl, hF1, hS1⟩ := open_outcome (hval 1 24 v1 rfl rfl) h1
  refine (walk W c0 ao0 cap0 ts0 hF0 hS0 c1 ao1 cap1 ts1 hF1 hS1).mono fun e W' ⟨he, hk⟩ => ?_
  subst he
  refine ⟨_, rfl, _, _, _, [], p0 ++ (p1 ++ []), [], hW', ?_, ?_, rfl, hk.frame _, fun h => by cases h⟩
  · exact trodAll_cons_mk (shut_bool Try.underlying4 _) trodAll_mk0
  · exact (trodAll_cons_mk (Below.trod laid (by kernel_rfl) (of_decide_eq_true (by kernel_rfl)) h0 hk hlt0) (trodAll_cons_mk (Below.trod laid (by kernel_rfl) (of_decide_eq_true (by kernel_rfl)) h1 hk hlt1) trodAll_mk0))

theorem over : Rows.fnExactBeginsRow.holds Try.pinned (OpenSpec.ofChange Rows.fnExactBeginsSpec) :=
  OpenClaim.holds_of_wide 3 Try.f3 rfl rfl rfl rfl rfl rfl rfl ⟨rfl, rfl, rfl, rfl, rfl⟩ rfl rfl rfl rfl rfl (by kernel_rfl) Try.func3 (by kernel_rfl)
    (of_decide_eq_true (by kernel_rfl)) (by unfold Func.isWrapper; first | (rw [if_pos (by decide +kernel)]; kernel_rfl) | (rw [if_neg (by decide +kernel)]; exact ⟨rfl, rfl⟩))
    (fun os started H enc _ => lifted os started H enc)

theorem proved : Rows.FnExactBeginsSaid :=
  over
#print axioms proved
end Go.Proofs.Ytcaoglghkeikoaa.fnExactBegins
