/-
  The law FnExactFuns is proved: at every tree impl.Funs answers as its model, it writes nothing into the tree, and its answer is memory of its own; where the library's listed variables lie as its text lays them.
-/
import Derived.Test.YtlinbkgeahgkjaaGreatDoorRows
import Derived.Test.YtlinbkgeahgkjaaGreatDoorCards
import Derived.Test.YtlinbkgeahgkjaaGreatDoorTie
import Derived.ChangeVars
import Derived.Stop.Joined
import Derived.SevenTiedAt
import Derived.Deep.DeepWitnessRowRef
import Derived.Deep.CutRange
import Derived.Deep.RegionWith
import Derived.Test.YtlinbkgeahgkjaaGreatDoorGrpFr
import Derived.Test.YtlinbkgeahgkjaaGreatDoorZDoorX
import Derived.Test.YtlinbkgeahgkjaaGreatDoorGrpFl
import Derived.Test.YtlinbkgeahgkjaaGreatDoorGrpNb
namespace Go.Proofs.YtlinbkgeahgkjaaGreatDoor.fnExactFuns
open Go.ChangeShapes Go.WideShapes Go.ChangeAt Go.RowKit
set_option linter.unusedVariables false

theorem own : ownKnob Tryz.prog.godebug = none := by kernel_rfl

set_option maxHeartbeats 16000000 in
set_option maxRecDepth 100000 in
theorem walk (w : World) (hE : EnvA w) (v0 : Value) (t0 : Nd) (hN0 : NdV w 0 t0 v0) :
    Calls Tryz.prog 3 #[v0] w fun e w' => e = .returned (.bool true) ∧ Kept w w' := by
  obtain ⟨op, s, n, ao, l, cap, rfl⟩ := hN0.four
  have b0 := Cells.new w 24 #[.int .i64 op, .string s, .int .i64 n, .slice ao l cap]
  have k0 : Kept w (w.alloc (.cells #[.int .i64 op, .string s, .int .i64 n, .slice ao l cap] 24)) := Kept.alloc (Below.refl _ _) _
  have hSz := szNode_ok _ t0 (Nat.le_refl _) _ 0 _ 1048576 (hN0.kept k0) (by decide) (by decide) (Nat.le_refl _)
  have c0 := b0.cell 0; have c1 := b0.cell 1; have c2 := b0.cell 2; have c3 := b0.cell 3
  by_cases hb : ((t0.bulk : Nat) : Int) ≤ 1048576
  · rw [show leftN 1048576 t0.bulk = 1048576 - ((t0.bulk : Nat) : Int) from if_pos hb] at hSz
    obtain ⟨r, hr⟩ : ∃ r, 1048576 - ((t0.bulk : Nat) : Int) = r := ⟨_, rfl⟩
    have hd : decide (r < 0) = false := decide_eq_false (by omega)
    rw [hr] at hSz
    have hbk : t0.bulk ≤ 1048576 := by omega
    have hsb : sizesN (kidsN t0) ≤ 1048576 := by obtain ⟨o', s', n', ks'⟩ := t0; simp only [kidsN, Nd.bulk] at hbk ⊢; have := sizes_bulk ks'; omega
    have HTo : Hid (∀ u, Kept w u → Calls Tryz.prog 6 #[.agg #[.int .i64 op, .string s, .int .i64 n, .slice ao l cap]] u fun e w' => ∃ v', e = .returned v' ∧ CpG w' t0 u.heap.size w'.heap.size v' ∧ Kept u w') := fun u hu => toNodeG_ok _ t0 (Nat.le_refl _) u 0 _ (hN0.kept hu) hbk
    obtain ⟨Lf, hLf⟩ : ∃ L, fnsR t0 = L := ⟨_, rfl⟩
    have hLs := fnsR_sizes t0
    have HSs : Hid (∀ u lo hi v, CpG u t0 lo hi v → Calls Tryz.prog 5 #[v] u fun e w' => ∃ a c, e = .returned (.slice a Lf.length c) ∧ FunG w' u.heap.size w'.heap.size (.slice a Lf.length c) Lf ∧ Kept u w') := fun u lo hi v h => (spec_Funs_ok t0 hbk u lo v (h.toV (Nat.le_refl _))).mono (fun e w' ⟨v', e1, h1, h2⟩ => by
      rw [hLf] at h1
      obtain ⟨⟨a, c, ev⟩, _⟩ := h1.toG.slice
      subst ev
      exact ⟨a, c, e1, h1.toG, h2⟩)
    have HSi : Hid (∀ u lo hi v, CpG u t0 lo hi v → 1 ≤ lo → Kept w u → Calls Tryz.prog 7 #[v] u fun e w' => ∃ a c, e = .returned (.slice a Lf.length c) ∧ FunG w' u.heap.size w'.heap.size (.slice a Lf.length c) Lf ∧ Kept u w') := fun u lo hi v h hb hu => (impl_Funs_ok t0 hbk u lo v (h.toV (Nat.le_refl _)) hb (hE.kept hu)).mono (fun e w' ⟨v', e1, h1, h2⟩ => by
      rw [hLf] at h1
      obtain ⟨⟨a, c, ev⟩, _⟩ := h1.slice
      subst ev
      exact ⟨a, c, e1, h1, h2⟩)
    have HEq : Hid (∀ u lo hi lo' hi' va vb, CpG u t0 lo hi va → CpG u t0 lo' hi' vb → Calls Tryz.prog 9 #[va, vb] u fun e w' => e = .returned (.bool true) ∧ Kept u w') := fun u lo hi lo' hi' va vb h h' => eqNode_ok _ t0 (Nat.le_refl _) u lo lo' va vb (h.toV (Nat.le_refl _)) (h'.toV (Nat.le_refl _))
    have HEs : Hid (∀ u lo hi lo' hi' va vb, FunG u lo hi va Lf → FunG u lo' hi' vb Lf → Calls Tryz.prog 8 #[va, vb] u fun e w' => e = .returned (.bool true) ∧ Kept u w') := fun u lo hi lo' hi' va vb h h' => eqRows_ok u lo hi lo' hi' va vb Lf h h'
    obtain ⟨r0, hr0⟩ : ∃ r : Int, ((1 + 3 * sizesN (kidsN t0) : Nat) : Int) = r := ⟨_, rfl⟩
    have hd0 : decide (r0 < 0) = false := decide_eq_false (by omega)
    have HMk : Hid (∀ u lo hi v, CpG u t0 lo hi v → lo ≤ u.heap.size → Calls Tryz.prog 10 #[v, .int .i64 1] u fun e w' => e = .returned (.int .i64 r0) ∧ ButT lo hi u w') := fun u lo hi v h hl => by
      rw [← hr0]
      obtain ⟨o', s', n', ks'⟩ := t0
      exact markNode_ok u lo hi o' n' s' ks' v 1 h (Nat.le_refl _) (by simp only [kidsN] at hsb; omega) hl
    rw [hLf] at hLs
    obtain ⟨r1, hr1⟩ : ∃ r : Int, ((1 + 3 * sizesN Lf : Nat) : Int) = r := ⟨_, rfl⟩
    have hd1 : decide (r1 < 0) = false := decide_eq_false (by omega)
    have hne1 : (r1 != r1) = false := by simp
    have HMs : Hid (∀ u lo hi v, FunG u lo hi v Lf → Calls Tryz.prog 11 #[v, .int .i64 1] u fun e w' => e = .returned (.int .i64 r1) ∧ FunG w' lo hi v (mkNds mkM Lf 1) ∧ ButT lo hi u w') := fun u lo hi v h => by
      rw [← hr1]
      exact markNodeS_ok _ Lf (Nat.le_refl _) u lo hi v 1 h (Nat.le_refl _) (by omega)
    have HHs : Hid (∀ u lo hi v, FunG u lo hi v (mkNds mkM Lf 1) → Calls Tryz.prog 12 #[v, .int .i64 1] u fun e w' => e = .returned (.int .i64 r1) ∧ Kept u w') := fun u lo hi v h => by
      rw [← hr1]
      exact heldNodeS_ok _ Lf (Nat.le_refl _) u lo hi v 1 h (Nat.le_refl _) (by omega)
    have HB : Hid (∀ u, Kept (w.alloc (.cells #[.int .i64 op, .string s, .int .i64 n, .slice ao l cap] 24)) u → u.cell? ⟨w.heap.size, 0, none⟩ = some (.int .i64 op) ∧ u.cell? ⟨w.heap.size, 1, none⟩ = some (.string s) ∧ u.cell? ⟨w.heap.size, 2, none⟩ = some (.int .i64 n) ∧ u.cell? ⟨w.heap.size, 3, none⟩ = some (.slice ao l cap)) := fun u hu => ⟨(b0.kept hu).cell 0, (b0.kept hu).cell 1, (b0.kept hu).cell 2, (b0.kept hu).cell 3⟩
    clear hr hb hbk hsb hN0 b0 hE hLf hLs hr0 hr1
    go_enter Tryz.func3, Tryz.ntmps3
    go_upto_region 10 with (first
      | (have g := G5; go_at_call 8; refine (HEs.out _ _ _ _ _ _ _ G5 (S3.kept (hk4.trans k45))).mono ?_; rintro e w6 ⟨rfl, hk6⟩)
      | (have g := kq4; go_at_call 7; refine (HSi.out _ _ _ _ (T4.kept (Kept.alloc (Below.refl _ _) _)) (by have := kq3.size; simp at this; omega) ((k0.trans kq4).alloc _)).mono ?_; rintro e w5 ⟨a5, cc5, rfl, G5, hk5⟩; have k45 : Kept w4 w5 := Kept.trans (Kept.alloc (Below.refl _ _) _) hk5; have x5 := (Cells.new w4 29 #[.int .i64 op4, .string s4, .int .i64 n4, .slice ao4 l4 cap4]).kept hk5)
      | (have g := kq3; go_at_call 6; refine (HTo.out _ (k0.trans kq3)).mono ?_; rintro e w4 ⟨v4, rfl, T4, hk4⟩; obtain ⟨op4, s4, n4, ao4, l4, cap4, rfl⟩ := T4.four; have kq4 := kq3.trans hk4)
      | (have g := kq2; go_at_call 5; refine (HSs.out _ _ _ _ T2).mono ?_; rintro e w3 ⟨a3, cc3, rfl, S3, hk3⟩; have kq3 := kq2.trans hk3; obtain ⟨c0, c1, c2, c3⟩ := HB.out _ kq3)
      | (have g := kq1; go_at_call 6; refine (HTo.out _ (k0.trans kq1)).mono ?_; rintro e w2 ⟨v2, rfl, T2, hk2⟩; have kq2 := kq1.trans hk2)
      | (go_at_call 4; refine hSz.mono ?_; rintro e w1 ⟨rfl, kq1⟩; obtain ⟨c0, c1, c2, c3⟩ := HB.out _ kq1))
    have kq6 := (kq4.trans k45).trans hk6
    have kd : Kept w6 w6.drew := (Below.refl _ w6).drew
    have xd := (x5.kept hk6).kept kd
    have hTo := HTo.out _ (k0.trans (kq6.trans kd))
    obtain ⟨B5, hB5⟩ : ∃ x, w4.heap.size = x := ⟨_, rfl⟩
    have T6 := T4.kept ((k45.trans hk6).trans kd)
    have S6 := S3.kept (hk4.trans ((k45.trans hk6).trans kd))
    have G6 := G5.kept (hk6.trans kd)
    have HZ : Hid (w.heap.size + 1 ≤ w2.heap.size ∧ w2.heap.size ≤ w3.heap.size ∧ w3.heap.size ≤ B5 ∧ B5 + 1 ≤ w5.heap.size ∧ w5.heap.size ≤ w6.drew.heap.size) := by
      have z1 := kq2.size; have z2 := hk3.size; have z3 := hk4.size; have z5 := x5.lt; have z6 := hk6.size
      simp at z1
      refine ⟨z1, z2, by omega, by omega, by simpa using z6⟩
    simp only [World.size_alloc] at G6
    rw [hB5] at xd T6 G6
    simp only [hB5]
    obtain ⟨a0, a1, a2, a3'⟩ := HB.out _ (kq6.trans kd)
    have e0 := xd.cell 0; have e1 := xd.cell 1; have e2 := xd.cell 2; have e3 := xd.cell 3
    have KW := kq6.trans kd
    obtain ⟨lo3, hlo3⟩ : ∃ x, w2.heap.size = x := ⟨_, rfl⟩
    obtain ⟨hi3, hhi3⟩ : ∃ x, w3.heap.size = x := ⟨_, rfl⟩
    obtain ⟨hi5, hhi5⟩ : ∃ x, w5.heap.size = x := ⟨_, rfl⟩
    rw [hlo3, hhi3, hhi5] at HZ
    rw [hhi3] at T6
    rw [hlo3, hhi3] at S6
    rw [hhi5] at G6
    clear hB5 hlo3 hhi3 hhi5 hSz T2 T4 S3 G5 x5 hk2 hk3 hk4 hk5 hk6 k45 kq1 kq2 kq3 kq4 c0 c1 c2 c3
    have HXD : Hid _ := xd
    have HG6 : Hid _ := And.intro T6 (And.intro S6 G6)
    have HKW : Hid _ := And.intro k0 KW
    clear xd k0 KW
    go_wp2_with fail
    go_region_with (first
      | (have g := k7; go_at_call 9; refine (HEq.out _ _ _ _ _ _ _ (T6.kept k7) T7).mono ?_; rintro e w8 ⟨rfl, k8⟩)
      | (go_at_call 6; refine hTo.mono ?_; rintro e w7 ⟨v7, rfl, T7, k7⟩; have y6 := Cells.kept HXD.out k7; have e0 := y6.cell 0; have e1 := y6.cell 1; have e2 := y6.cell 2; have e3 := y6.cell 3))
    all_goals (
      have k78 := k7.trans k8
      obtain ⟨z1, z2, z3, z4, z5⟩ := HZ.out
      have zk := k78.size
      have x8 := Cells.kept HXD.out k78
      have m0 := x8.cell 0; have m1 := x8.cell 1; have m2 := x8.cell 2; have m3 := x8.cell 3
      have T8 := HG6.out.1.kept k78
      have S8 := HG6.out.2.1.kept k78
      have G8 := HG6.out.2.2.kept k78
      have HK8 : Hid _ := HKW.out.2.trans k78
      have HTok : Hid (∀ u, Kept w u → Calls Tryz.prog 6 #[.agg #[.int .i64 op, .string s, .int .i64 n, .slice ao l cap]] u fun e w' => ∃ v', e = .returned v' ∧ CpG w' t0 u.heap.size w'.heap.size v' ∧ Kept u w') := HTo
      clear e0 e1 e2 e3 a0 a1 a2 a3' hTo T6 S6 G6 T7 k7 k8 x8
      go_wp2_with (first
        | (have g := k15; go_at_call 12; refine (HHs.out _ _ _ _ (M12.kept ((k12.trans k13).trans (k14.trans k15)))).mono ?_; rintro e w16 ⟨rfl, k16⟩)
        | (have g := G14; go_at_call 8; refine (HEs.out _ _ _ _ _ _ _ G14 (S12.kept ((k12.trans k13).trans k14))).mono ?_; rintro e w15 ⟨rfl, k15⟩)
        | (have g := T13; go_at_call 7; refine (HSi.out _ _ _ _ T13 (by have q1 := k12.size; have q2 := HK12.out.size; simp only [World.size_alloc] at q2; omega) (Kept.trans HKW.out.1 (HK12.out.trans (k12.trans k13)))).mono ?_; rintro e w14 ⟨a14, cc14, rfl, G14, k14⟩)
        | (have g := k12; go_at_call 6; refine (HTok.out _ (Kept.trans HKW.out.1 (HK12.out.trans k12))).mono ?_; rintro e w13 ⟨v13, rfl, T13, k13⟩)
        | (have g := M12; go_at_call 12; refine (HHs.out _ _ _ _ M12).mono ?_; rintro e w12 ⟨rfl, k12⟩; obtain ⟨b0, b1, b2, b3⟩ := HB.out _ (HK12.out.trans k12))
        | (have g := k10; go_at_call 11; refine (HMs.out _ _ _ _ (G9.kept k10)).mono ?_; rintro e w11 ⟨rfl, M12, B11⟩; have S12 := (S9.kept k10).but B11 (.inl (by omega)); have HK12 : Hid (Kept (w.alloc (.cells #[.int .i64 op, .string s, .int .i64 n, .slice ao l cap] 24)) w11) := (Below.trans (Below.trans (HK9.out) (k10.mono (by have := HK9.out.size; simpa using this))) (B11.low.mono (by simp; omega))))
        | (have g := B9; go_at_call 8; refine (HEs.out _ _ _ _ _ _ _ G9 S9).mono ?_; rintro e w10 ⟨rfl, k10⟩)
        | (go_at_call 10; refine (HMk.out _ _ _ _ T8 (by omega)).mono ?_; rintro e w9 ⟨rfl, B9⟩; have G9 := G8.but B9 (.inr (by omega)); have S9 := S8.but B9 (.inl (by omega)); have HK9 : Hid (Kept (w.alloc (.cells #[.int .i64 op, .string s, .int .i64 n, .slice ao l cap] 24)) w9) := Below.trans HK8.out (B9.low.mono (by simp; omega))))
      go_ret
      exact ⟨rfl, Kept.trans HKW.out.1 ((HK12.out.trans k12).trans (((k13.trans k14).trans k15).trans k16))⟩)
  · rw [show leftN 1048576 t0.bulk = -1 from if_neg hb] at hSz
    clear hb hN0
    go_enter Tryz.func3, Tryz.ntmps3
    go_wp2_with (go_at_call 4; refine hSz.mono ?_; rintro e w1 ⟨rfl, hk1⟩)
    go_ret
    exact ⟨rfl, k0.trans hk1⟩

set_option maxRecDepth 100000 in
theorem lifted (os : Os) (started : os.Started) (H : Type) (enc : TypeId × Value → H) :
    ReturnsInHanded {} Tryz.checked os 3 .any (fun w args => (Rows.fnExactFunsSpec.pre enc Tryz.prog Tryz.f3 [] false w args ∧ laidMetH Tryz.prog Rows.fnExactFunsRow.laid w) ∧ sizedMet enc Tryz.prog Tryz.f3 (OpenSpec.ofChange Rows.fnExactFunsSpec) false w args)
      (Rows.fnExactFunsSpec.post enc Tryz.prog Tryz.f3 false true false false) := by
  refine returnsInHanded_of_calls (C := Tryz.checked) own started (by kernel_rfl)
    (witness_row_atRef (enc := enc) (C := Tryz.checked) (s := OpenSpec.ofChange Rows.fnExactFunsSpec) (conds := []) (apart := false) (laid := Rows.fnExactFunsRow.laid) (fn := Tryz.f3) false (laidWorld os) #[.agg #[.int .i64 0, .string ⟨#[]⟩, .int .i64 0, .slice none 0 0]] rfl (by kernel_rfl) (by kernel_rfl) (by kernel_rfl) (OpenSpec.preRow_of_B rfl 8 (by kernel_rfl) (by kernel_rfl) (laidWorld_met os _))) ?_
  intro w0 tape i _ hsh0 _ hok hpre _
  obtain ⟨_, _, _, fn', hfn', _, _, _, _, hval1⟩ := hok
  have efn : fn' = Tryz.f3 := Option.some.inj (hfn'.symm.trans Tryz.func3)
  rw [efn] at hval1
  obtain ⟨⟨⟨ds, gs, before, hw0, _⟩, hL0⟩, _⟩ := hpre
  have hw1 := DataW.Whole.of_heap (w' := w0.forCall tape i) (by rfl) hw0
  have hL1 : laidMetH Tryz.prog Rows.fnExactFunsRow.laid (w0.forCall tape i) := hL0.of_heap (by rfl)
  have hsh1 : (w0.forCall tape i).ShapedOpen Tryz.prog := hsh0
  suffices key : ∀ (W : World) (base : Nat) (args : Array Value), (∀ (j : Nat) t v, Tryz.f3.params[j]? = some t → args[j]? = some v → Value.okWide Tryz.prog W .any base t v) → DataW.Whole enc Tryz.prog Tryz.f3.params.toList Rows.fnExactFunsSpec.vars false W args.toList ds gs before → laidMetH Tryz.prog Rows.fnExactFunsRow.laid W → W.ShapedOpen Tryz.prog →
      Calls Tryz.prog 3 args W fun e W' => ∃ v, e = .returned v ∧ Rows.fnExactFunsSpec.post enc Tryz.prog Tryz.f3 false true false false W args v W' from
    (key (w0.forCall tape i) w0.heap.size i.args hval1 hw1 hL1 hsh1).mono (fun e W' ⟨v, he, hp⟩ => by
      subst he
      exact ChangeSpec.post_blind hp)
  clear hval1 hw0 hw1 hL0 hL1 hsh0 hsh1 hfn' efn
  intro W base args hval0 hW hL hsh
  have hval : ∀ (j : Nat) t v, Tryz.f3.params[j]? = some t → args[j]? = some v → Value.okWide Tryz.prog W .any base t v := hval0
  have hW' := hW
  obtain ⟨p, q, hA0, hV, rfl, hfz, hnd⟩ := hW
  have hA : DataW.TrodAll enc Tryz.prog W 0 (fun _ => true) true Tryz.f3.params.toList args.toList ds p := hA0
  rw [Tryz.params3] at hA hval
  obtain ⟨v0, vs0, d0, ds0, p0, q0, hargs0, rfl, rfl, h0, r0⟩ := trodAll_cons hA
  obtain ⟨rfl, rfl, rfl⟩ := trodAll_nil r0
  obtain rfl : args = #[v0] := by cases args; simp_all
  obtain ⟨rfl, rfl⟩ := trodVars_none hV
  clear hA0 hval0
  simp only [List.append_nil] at hW'
  have hlt0 : ∀ x ∈ p0, x.block < W.heap.size := fun x hx => by simpa using hW'.lt x (by simp [hx])
  obtain ⟨t0, hN0⟩ := open_node (hval 0 24 v0 rfl rfl) h0
  refine (walk W (env_of_laid hL hsh) v0 t0 hN0).mono fun e W' ⟨he, hk⟩ => ?_
  subst he
  refine ⟨_, rfl, _, _, _, [], p0 ++ [], [], hW', ?_, ?_, rfl, hk.frame _, fun h => by cases h⟩
  · exact trodAll_cons_mk (shut_bool Tryz.underlying4 _) trodAll_mk0
  · exact (trodAll_cons_mk (Below.trod laid (by kernel_rfl) (of_decide_eq_true (by kernel_rfl)) h0 hk hlt0) trodAll_mk0)

theorem over : Rows.fnExactFunsRow.holds Tryz.pinned (OpenSpec.ofChange Rows.fnExactFunsSpec) :=
  OpenClaim.holds_of_wide 3 Tryz.f3 rfl rfl rfl rfl rfl rfl rfl ⟨rfl, rfl, rfl, rfl, rfl⟩ rfl rfl rfl rfl rfl (by kernel_rfl) Tryz.func3 (by kernel_rfl)
    (of_decide_eq_true (by kernel_rfl)) (by unfold Func.isWrapper; first | (rw [if_pos (by decide +kernel)]; kernel_rfl) | (rw [if_neg (by decide +kernel)]; exact ⟨rfl, rfl⟩))
    (fun os started H enc _ => lifted os started H enc)

theorem proved : Rows.FnExactFunsCardSaid :=
  Claim7.holds_tied_plain_at .later [] [.data, .data, .data, .data, .sentinel, .sentinel, .listed, .data, .pinned] true (true, Rows.fnExactFunsCard.stood.harness.2) true
    over (fun _ h => by cases h) (by kernel_rfl) (fun _ h => by cases h) fnExactFuns_row_tie rfl ⟨rfl, rfl⟩ (by kernel_rfl) rfl
    (fun f fn hf hfn => by
      obtain rfl : f = 3 := Option.some.inj ((show Tryz.prog.funcNamed Rows.fnExactFunsRow.func = some 3 by kernel_rfl).symm.trans hf) |>.symm
      obtain rfl : fn = Tryz.f3 := (Option.some.inj (Tryz.func3.symm.trans hfn)).symm
      exact ⟨by kernel_rfl, fun j t ht => by
        rw [Tryz.params3] at ht
        have hm : t ∈ [24] := by
          have := List.mem_of_getElem? (l := [24]) (i := j) (a := t) (by simpa using ht)
          exact this
        have hall : ∀ t ∈ [24], Tryz.prog.wantsStandIn t = false := by
          intro t ht
          simp only [List.mem_cons, List.not_mem_nil, or_false] at ht
          rcases ht with rfl <;> kernel_rfl
        exact hall t hm⟩)
    (by kernel_rfl)
#print axioms proved
end Go.Proofs.YtlinbkgeahgkjaaGreatDoor.fnExactFuns
