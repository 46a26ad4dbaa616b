/-
  The law FnExactWrite is proved: at every tree impl.Write answers as its model, and it writes nothing into the tree; where the library's listed variables lie as its text lays them.
-/
import Derived.Test.YtejpjbfmjmfnmaaGreatDoorRows
import Derived.Test.YtejpjbfmjmfnmaaGreatDoorCards
import Derived.Test.YtejpjbfmjmfnmaaGreatDoorTie
import Derived.ChangeVars
import Derived.Stop.Joined
import Derived.SevenTiedAt
import Derived.Deep.DeepWitnessRowRef
import Derived.Deep.CutRange
import Derived.Deep.RegionWith
import Derived.Test.YtejpjbfmjmfnmaaGreatDoorFrameM
import Derived.Test.YtejpjbfmjmfnmaaGreatDoorDoorW
import Derived.Test.YtejpjbfmjmfnmaaGreatDoorNodA
import Derived.Test.YtejpjbfmjmfnmaaGreatDoorGrpNb
import Derived.Test.YtejpjbfmjmfnmaaGreatDoorGrpVd
import Derived.Test.YtejpjbfmjmfnmaaGreatDoorZWtG
namespace Go.Proofs.YtejpjbfmjmfnmaaGreatDoor.fnExactWrite
open Go.ChangeShapes Go.WideShapes Go.ChangeAt Go.RowKit
set_option linter.unusedVariables false

theorem own : ownKnob Tryz.prog.godebug = none := by kernel_rfl

set_option maxHeartbeats 8000000 in
set_option maxRecDepth 100000 in
theorem walk (w : World) (hE : EnvA w) (v0 : Value) (t0 : Nd) (hN0 : NdV w 0 t0 v0) :
    Calls Tryz.prog 3 #[v0] w fun e w' => e = .returned (.bool true) ∧ Kept w w' := by
  obtain ⟨op, s, n, ao, l, cap, rfl⟩ := hN0.four
  have b0 := Cells.new w 24 #[.int .i64 op, .string s, .int .i64 n, .slice ao l cap]
  have k0 : Kept w (w.alloc (.cells #[.int .i64 op, .string s, .int .i64 n, .slice ao l cap] 24)) := Kept.alloc (Below.refl _ _) _
  have hSz := szNode_ok _ t0 (Nat.le_refl _) _ 0 _ 1048576 (hN0.kept k0) (by decide) (by decide) (Nat.le_refl _)
  have c0 := b0.cell 0; have c1 := b0.cell 1; have c2 := b0.cell 2; have c3 := b0.cell 3
  by_cases hb : ((t0.bulk : Nat) : Int) ≤ 1048576
  · rw [show leftN 1048576 t0.bulk = 1048576 - ((t0.bulk : Nat) : Int) from if_pos hb] at hSz
    obtain ⟨r, hr⟩ : ∃ r, 1048576 - ((t0.bulk : Nat) : Int) = r := ⟨_, rfl⟩
    have hd : decide (r < 0) = false := decide_eq_false (by omega)
    rw [hr] at hSz
    have hbk : t0.bulk ≤ 1048576 := by omega
    have HTo : Hid (∀ u, Kept w u → Calls Tryz.prog 7 #[.agg #[.int .i64 op, .string s, .int .i64 n, .slice ao l cap]] u fun e w' => ∃ v', e = .returned v' ∧ NdV w' u.heap.size t0 v' ∧ Kept u w') := fun u hu => toNode_ok _ t0 (Nat.le_refl _) u 0 _ (hN0.kept hu) hbk
    have HSs : Hid (∀ u base v, NdV u base t0 v → Calls Tryz.prog 6 #[v] u fun e w' => e = .returned (.string (writeR t0)) ∧ Kept u w') := fun u base v h => spec_Write_ok t0 hbk u base v h
    have HSi : Hid (∀ u base v, NdV u base t0 v → 1 ≤ base → Kept w u → Calls Tryz.prog 8 #[v] u fun e w' => e = .returned (.string (writeR t0)) ∧ Kept u w') := fun u base v h hb hu => impl_Write_ok t0 hbk u (hE.kept hu) base v h hb
    have HEq : Hid (∀ u ba bb va vb, NdV u ba t0 va → NdV u bb t0 vb → Calls Tryz.prog 9 #[va, vb] u fun e w' => e = .returned (.bool true) ∧ Kept u w') := fun u ba bb va vb h h' => eqNode_ok _ t0 (Nat.le_refl _) u ba bb va vb h h'
    have HB : Hid (∀ u, Kept (w.alloc (.cells #[.int .i64 op, .string s, .int .i64 n, .slice ao l cap] 24)) u → u.cell? ⟨w.heap.size, 0, none⟩ = some (.int .i64 op) ∧ u.cell? ⟨w.heap.size, 1, none⟩ = some (.string s) ∧ u.cell? ⟨w.heap.size, 2, none⟩ = some (.int .i64 n) ∧ u.cell? ⟨w.heap.size, 3, none⟩ = some (.slice ao l cap)) := fun u hu => ⟨(b0.kept hu).cell 0, (b0.kept hu).cell 1, (b0.kept hu).cell 2, (b0.kept hu).cell 3⟩
    obtain ⟨z, hz⟩ : ∃ z, writeR t0 = z := ⟨_, rfl⟩
    simp only [hz] at HSs HSi
    have hne : (z != z) = false := by simp [bne, beq_toListBytes]
    clear hr hb hbk hz hN0 b0 hE
    go_enter Tryz.func3, Tryz.ntmps3
    go_upto_region 10 with (first
      | (have g := kq4; go_at_call 8; refine (HSi.out _ _ _ (N4.kept (Kept.alloc (Below.refl _ _) _)) (by have := kq3.size; simp at this; omega) ((k0.trans kq4).alloc _)).mono ?_; rintro e w5 ⟨rfl, hk5⟩; have k45 : Kept w4 w5 := Kept.trans (Kept.alloc (Below.refl _ _) _) hk5; have x5 := (Cells.new w4 29 #[.int .i64 op4, .string s4, .int .i64 n4, .slice ao4 l4 cap4]).kept hk5)
      | (have g := kq3; go_at_call 7; refine (HTo.out _ (k0.trans kq3)).mono ?_; rintro e w4 ⟨v4, rfl, N4, hk4⟩; obtain ⟨op4, s4, n4, ao4, l4, cap4, rfl⟩ := N4.four; have kq4 := kq3.trans hk4)
      | (have g := kq2; go_at_call 6; refine (HSs.out _ _ _ N2).mono ?_; rintro e w3 ⟨rfl, hk3⟩; have kq3 := kq2.trans hk3; obtain ⟨c0, c1, c2, c3⟩ := HB.out _ kq3)
      | (have g := kq1; go_at_call 7; refine (HTo.out _ (k0.trans kq1)).mono ?_; rintro e w2 ⟨v2, rfl, N2, hk2⟩; have kq2 := kq1.trans hk2)
      | (go_at_call 5; refine hSz.mono ?_; rintro e w1 ⟨rfl, kq1⟩; obtain ⟨c0, c1, c2, c3⟩ := HB.out _ kq1))
    have kq5 := kq4.trans k45
    have kd : Kept w5 w5.drew := (Below.refl _ w5).drew
    have xd := x5.kept kd
    have hTo := HTo.out _ (k0.trans (kq5.trans kd))
    obtain ⟨B5, hB5⟩ : ∃ x, w4.heap.size = x := ⟨_, rfl⟩
    rw [hB5] at x5 xd
    simp only [hB5]
    obtain ⟨a0, a1, a2, a3⟩ := HB.out _ (kq5.trans kd)
    have e0 := xd.cell 0; have e1 := xd.cell 1; have e2 := xd.cell 2; have e3 := xd.cell 3
    have N5 := N4.kept (k45.trans kd)
    have KW := (k0.trans kq5).trans kd
    clear hB5 HTo HSs HSi hSz N2 hk2 hk3 hk4 hk5 kq1 kq2 kq3 c0 c1 c2 c3
    go_wp2_with fail
    go_region_with (first
      | (have g := k6; go_at_call 9; refine (HEq.out _ _ _ _ _ (N5.kept k6) N6).mono ?_; rintro e w7 ⟨rfl, k7⟩)
      | (go_at_call 7; refine hTo.mono ?_; rintro e w6 ⟨v6, rfl, N6, k6⟩; have y6 := xd.kept k6; have e0 := y6.cell 0; have e1 := y6.cell 1; have e2 := y6.cell 2; have e3 := y6.cell 3))
    all_goals (
      go_wp2_with fail
      go_ret
      exact ⟨rfl, (KW.trans k6).trans k7⟩)
  · rw [show leftN 1048576 t0.bulk = -1 from if_neg hb] at hSz
    clear hb hN0
    go_enter Tryz.func3, Tryz.ntmps3
    go_wp2_with (go_at_call 5; refine hSz.mono ?_; rintro e w1 ⟨rfl, hk1⟩)
    go_ret
    exact ⟨rfl, k0.trans hk1⟩

set_option maxRecDepth 100000 in
theorem lifted (os : Os) (started : os.Started) (H : Type) (enc : TypeId × Value → H) :
    ReturnsInHanded {} Tryz.checked os 3 .any (fun w args => (Rows.fnExactWriteSpec.pre enc Tryz.prog Tryz.f3 [] false w args ∧ laidMetH Tryz.prog Rows.fnExactWriteRow.laid w) ∧ sizedMet enc Tryz.prog Tryz.f3 (OpenSpec.ofChange Rows.fnExactWriteSpec) false w args)
      (Rows.fnExactWriteSpec.post enc Tryz.prog Tryz.f3 false true false false) := by
  refine returnsInHanded_of_calls (C := Tryz.checked) own started (by kernel_rfl)
    (witness_row_atRef (enc := enc) (C := Tryz.checked) (s := OpenSpec.ofChange Rows.fnExactWriteSpec) (conds := []) (apart := false) (laid := Rows.fnExactWriteRow.laid) (fn := Tryz.f3) false (laidWorld os) #[.agg #[.int .i64 0, .string ⟨#[]⟩, .int .i64 0, .slice none 0 0]] rfl (by kernel_rfl) (by kernel_rfl) (by kernel_rfl) (OpenSpec.preRow_of_B rfl 8 (by kernel_rfl) (by kernel_rfl) (laidWorld_met os _))) ?_
  intro w0 tape i _ hsh0 _ hok hpre _
  obtain ⟨_, _, _, fn', hfn', _, _, _, _, hval1⟩ := hok
  have efn : fn' = Tryz.f3 := Option.some.inj (hfn'.symm.trans Tryz.func3)
  rw [efn] at hval1
  obtain ⟨⟨⟨ds, gs, before, hw0, _⟩, hL0⟩, _⟩ := hpre
  have hw1 := DataW.Whole.of_heap (w' := w0.forCall tape i) (by rfl) hw0
  have hL1 : laidMetH Tryz.prog Rows.fnExactWriteRow.laid (w0.forCall tape i) := hL0.of_heap (by rfl)
  have hsh1 : (w0.forCall tape i).ShapedOpen Tryz.prog := hsh0
  suffices key : ∀ (W : World) (base : Nat) (args : Array Value), (∀ (j : Nat) t v, Tryz.f3.params[j]? = some t → args[j]? = some v → Value.okWide Tryz.prog W .any base t v) → DataW.Whole enc Tryz.prog Tryz.f3.params.toList Rows.fnExactWriteSpec.vars false W args.toList ds gs before → laidMetH Tryz.prog Rows.fnExactWriteRow.laid W → W.ShapedOpen Tryz.prog →
      Calls Tryz.prog 3 args W fun e W' => ∃ v, e = .returned v ∧ Rows.fnExactWriteSpec.post enc Tryz.prog Tryz.f3 false true false false W args v W' from
    (key (w0.forCall tape i) w0.heap.size i.args hval1 hw1 hL1 hsh1).mono (fun e W' ⟨v, he, hp⟩ => by
      subst he
      exact ChangeSpec.post_blind hp)
  clear hval1 hw0 hw1 hL0 hL1 hsh0 hsh1 hfn' efn
  intro W base args hval0 hW hL hsh
  have hval : ∀ (j : Nat) t v, Tryz.f3.params[j]? = some t → args[j]? = some v → Value.okWide Tryz.prog W .any base t v := hval0
  have hW' := hW
  obtain ⟨p, q, hA0, hV, rfl, hfz, hnd⟩ := hW
  have hA : DataW.TrodAll enc Tryz.prog W 0 (fun _ => true) true Tryz.f3.params.toList args.toList ds p := hA0
  rw [Tryz.params3] at hA hval
  obtain ⟨v0, vs0, d0, ds0, p0, q0, hargs0, rfl, rfl, h0, r0⟩ := trodAll_cons hA
  obtain ⟨rfl, rfl, rfl⟩ := trodAll_nil r0
  obtain rfl : args = #[v0] := by cases args; simp_all
  obtain ⟨rfl, rfl⟩ := trodVars_none hV
  clear hA0 hval0
  simp only [List.append_nil] at hW'
  have hlt0 : ∀ x ∈ p0, x.block < W.heap.size := fun x hx => by simpa using hW'.lt x (by simp [hx])
  obtain ⟨t0, hN0⟩ := open_node (hval 0 24 v0 rfl rfl) h0
  refine (walk W (env_of_laid hL hsh) v0 t0 hN0).mono fun e W' ⟨he, hk⟩ => ?_
  subst he
  refine ⟨_, rfl, _, _, _, [], p0 ++ [], [], hW', ?_, ?_, rfl, hk.frame _, fun h => by cases h⟩
  · exact trodAll_cons_mk (shut_bool Tryz.underlying4 _) trodAll_mk0
  · exact (trodAll_cons_mk (Below.trod laid (by kernel_rfl) (of_decide_eq_true (by kernel_rfl)) h0 hk hlt0) trodAll_mk0)

theorem over : Rows.fnExactWriteRow.holds Tryz.pinned (OpenSpec.ofChange Rows.fnExactWriteSpec) :=
  OpenClaim.holds_of_wide 3 Tryz.f3 rfl rfl rfl rfl rfl rfl rfl ⟨rfl, rfl, rfl, rfl, rfl⟩ rfl rfl rfl rfl rfl (by kernel_rfl) Tryz.func3 (by kernel_rfl)
    (of_decide_eq_true (by kernel_rfl)) (by unfold Func.isWrapper; first | (rw [if_pos (by decide +kernel)]; kernel_rfl) | (rw [if_neg (by decide +kernel)]; exact ⟨rfl, rfl⟩))
    (fun os started H enc _ => lifted os started H enc)

theorem proved : Rows.FnExactWriteCardSaid :=
  Claim7.holds_tied_plain_at .later [] [.data, .data, .data, .data, .sentinel, .sentinel, .listed, .data, .pinned] true (true, Rows.fnExactWriteCard.stood.harness.2) true
    over (fun _ h => by cases h) (by kernel_rfl) (fun _ h => by cases h) fnExactWrite_row_tie rfl ⟨rfl, rfl⟩ (by kernel_rfl) rfl
    (fun f fn hf hfn => by
      obtain rfl : f = 3 := Option.some.inj ((show Tryz.prog.funcNamed Rows.fnExactWriteRow.func = some 3 by kernel_rfl).symm.trans hf) |>.symm
      obtain rfl : fn = Tryz.f3 := (Option.some.inj (Tryz.func3.symm.trans hfn)).symm
      exact ⟨by kernel_rfl, fun j t ht => by
        rw [Tryz.params3] at ht
        have hm : t ∈ [24] := by
          have := List.mem_of_getElem? (l := [24]) (i := j) (a := t) (by simpa using ht)
          exact this
        have hall : ∀ t ∈ [24], Tryz.prog.wantsStandIn t = false := by
          intro t ht
          simp only [List.mem_cons, List.not_mem_nil, or_false] at ht
          rcases ht with rfl <;> kernel_rfl
        exact hall t hm⟩)
    (by kernel_rfl)
#print axioms proved
end Go.Proofs.YtejpjbfmjmfnmaaGreatDoor.fnExactWrite
