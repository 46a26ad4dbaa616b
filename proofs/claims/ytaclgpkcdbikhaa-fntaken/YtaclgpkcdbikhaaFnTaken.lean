/-
  The law FnTaken is proved: for every slice of bytes, what is taken of the slab that is drawn of it, and given again, leaves as much room; the program's Take and SlabOk answer as their models; nothing that was there is written.
-/
import Derived.Test.YtaclgpkcdbikhaaRows
import Derived.WalkKit
import Derived.ProofKit
import Derived.OpenShut
import Derived.ShutString
import Derived.ChangeOld
import Derived.Below
import Derived.Test.YtaclgpkcdbikhaaSlabA
import Derived.Test.YtaclgpkcdbikhaaSlabV
namespace Go.Proofs.Ytaclgpkcdbikhaa.fnTaken
open Go.ChangeShapes Go.WideShapes Go.ChangeAt Go.RowKit
open Go.ChangeMaps (open_string shut_string)
set_option linter.unusedVariables false

theorem own : ownKnob Try.prog.godebug = none := by kernel_rfl
theorem laidOut : laidOutB Try.prog = true := by kernel_rfl

/-- WHAT THE WALK IS TOLD OF A SLICE OF INTEGERS THAT CAME IN: it is nil; or it leads to a row of 'cap' cells, the numbers 'zs' (the first 'len' are its elements, the rest its spare room), each fitting its kind. -/
def IsRow (k : IntKind) (w : World) (a : Option Addr) (len cap : Nat) (zs : List Int) : Prop :=
  (a = none ∧ len = 0 ∧ cap = 0 ∧ zs = []) ∨
  ∃ x, a = some x ∧ len ≤ cap ∧ cap ≤ maxLen ∧ zs.length = cap ∧ (∀ i, i < zs.length → w.cell? (x.add i) = some (.int k (zs.getD i 0))) ∧ ∀ n ∈ zs, (Lit.int k n).wf = true

set_option maxRecDepth 100000 in
set_option maxHeartbeats 16000000 in

theorem walk (a0 : Option Addr) (len0 cap0 : Nat) (z0 : List Int) (w : World) (w0 : IsRow .u8 w a0 len0 cap0 z0) :
    Calls Try.prog 3 #[.slice a0 len0 cap0] w fun e w' => e = .returned (.bool true) ∧ Below w.heap.size w w' := by
  have hs := src_of w0
  clear w0
  have hlen := hs.1
  by_cases hbig : (1048576 : Int) < (len0 : Int)
  · go_enter Try.func3, Try.ntmps3
    go_wp2_with (first | (go_at_call 6; go_in))
    go_ret
    exact ⟨rfl, Below.refl _ _⟩
  · have hD := DrawTake_ok a0 len0 cap0 _ _ hs
    go_enter Try.func3, Try.ntmps3
    go_wp2_with (first | (go_at_call 6; go_in))
    refine hD.mono ?_
    rintro e w1 ⟨v, zs, kind, n, rfl, hO, hl, hk0, hk6, hn0, hn1, hK1⟩
    obtain ⟨ao, cp, rfl, hI, _⟩ := hO
    have hl' : zs.length ≤ 1048576 := by omega
    have hL : zs.length * 8 ≤ 140737488351232 := by omega
    obtain ⟨rs, at', ok, hrl, hTi, hTs, hF1, hF2, hF3⟩ := Take_facts zs kind n hn1 hl'
    have ka : Kept w1 (w1.alloc (.cells #[.slice ao zs.length cp] 26)) := Kept.alloc (Below.refl _ _) _
    have xs := Cells.new w1 26 #[.slice ao zs.length cp]
    have hIa := hI.kept ka
    have hKa := hK1.trans ka
    clear hD hs ka hI hK1
    go_wp2_with fail
    refine (hTi _ _ _ hIa).mono ?_
    rintro e w2 ⟨v2, rfl, o2, hK2⟩
    obtain ⟨la, lc, rfl, hIt⟩ := o2.ints
    have kb : Kept w2 (w2.alloc (.cells #[.slice la rs.length lc] 26)) := Kept.alloc (Below.refl _ _) _
    have xt := Cells.new w2 26 #[.slice la rs.length lc]
    have xs2 := (xs.kept hK2).kept kb
    have c2 := xs2.cell 0
    have l2 := (xs.kept hK2).lt
    have c2' := (xs.kept hK2).cell 0
    have hIs := (hIa.kept hK2).kept kb
    have hIt2 := hIt.kept kb
    have hKb := (hKa.trans hK2).trans kb
    clear o2
    go_wp2_with fail
    refine (hTs _ _ _ hIs).mono ?_
    rintro e w3 ⟨v3, rfl, o3, hK3⟩
    obtain ⟨ua, uc, rfl, hIu⟩ := o3.ints
    have kc : Kept w3 (w3.alloc (.cells #[.slice ua rs.length uc] 26)) := Kept.alloc (Below.refl _ _) _
    have xu := Cells.new w3 26 #[.slice ua rs.length uc]
    have ys := (xs2.kept hK3).kept kc
    have yt := (xt.kept hK3).kept kc
    have jIs := (hIs.kept hK3).kept kc
    have jIt := (hIt2.kept hK3).kept kc
    have jIu := hIu.kept kc
    have jK := (hKb.trans hK3).trans kc
    obtain ⟨Bs, hBs⟩ : ∃ Bs, w1.heap.size = Bs := ⟨_, rfl⟩
    obtain ⟨Bt, hBt⟩ : ∃ Bt, w2.heap.size = Bt := ⟨_, rfl⟩
    obtain ⟨Bu, hBu⟩ : ∃ Bu, w3.heap.size = Bu := ⟨_, rfl⟩
    go_wp2_with fail
    obtain ⟨W, hW⟩ : ∃ W, w3.alloc (.cells #[.slice ua rs.length uc] 26) = W := ⟨_, rfl⟩
    rw [hBs] at ys
    rw [hBt] at yt
    rw [hBu] at xu
    rw [hW] at ys yt xu jIs jIt jIu jK
    rw [hW]
    clear hW hBs hBt hBu c2 c2' l2 kc kb xs xs2 xt hIs hIt hIt2 hIu hKa hKb hIa hK2 hK3 o3 hTi hTs
    obtain ⟨b, hb⟩ : ∃ b, slabOk zs = b := ⟨_, rfl⟩
    have kd : Kept W W.drew := (Below.refl _ W).drew
    have q1 : ∀ u, Kept W.drew u → u.cell? ⟨Bs, 0, none⟩ = some (.slice ao zs.length cp) := fun u hu => (ys.kept (kd.trans hu)).cell 0
    have q2 : ∀ u, Kept W.drew u → u.cell? ⟨Bt, 0, none⟩ = some (.slice la rs.length lc) := fun u hu => (yt.kept (kd.trans hu)).cell 0
    have q3 : ∀ u, Kept W.drew u → u.cell? ⟨Bu, 0, none⟩ = some (.slice ua rs.length uc) := fun u hu => (xu.kept (kd.trans hu)).cell 0
    have hC1 : Hid (∀ u, Kept W.drew u → Calls Try.prog 10 #[.slice la rs.length lc, .slice ua rs.length uc] u fun e w' => e = .returned (.bool true) ∧ Kept u w') := fun u hu => sameInts_ok u _ _ _ _ rs (jIt.kept (kd.trans hu)) (jIu.kept (kd.trans hu)) hrl
    have hC2 : Hid (∀ u, Kept W.drew u → Calls Try.prog 11 #[.agg #[.slice ao zs.length cp]] u fun e w' => e = .returned (.bool b) ∧ Kept u w') := fun u hu => by have := impl_SlabOk_ok u _ cp zs (jIs.kept (kd.trans hu)) hL; rw [hb] at this; exact this
    have hS : ∀ u, Kept W u → Calls Try.prog 12 #[.agg #[.slice ao zs.length cp]] u fun e w' => e = .returned (.bool b) ∧ Kept u w' := fun u hu => by have := spec_SlabOk_ok u _ cp zs (jIs.kept hu) hL; rw [hb] at this; exact this
    have hC3 : Hid (∀ u, Kept W.drew u → Calls Try.prog 12 #[.agg #[.slice ao zs.length cp]] u fun e w' => e = .returned (.bool b) ∧ Kept u w') := fun u hu => hS u (kd.trans hu)
    have HS : Hid _ := hS
    have HF1 : Hid _ := hF1
    have HF2 : Hid _ := hF2
    have HF3 : Hid _ := hF3
    have HB : Hid (slabOk zs = b) := hb
    clear hS hF1 hF2 hF3 hb
    refine wp_region_seqL (by kernel_rfl) (by kernel_rfl) ?_
    repeat (first
      | (refine SeqL.skip (by rfl) ?_; simp only [Act.put, List.setIfInBounds_toArray, List.set_cons_zero, List.set_cons_succ])
      | (refine SeqL.pure ?_ (by rfl) ?_ ?_; rotate_left; (focus (intro u hu; have q1' := q1 u hu; have q2' := q2 u hu; have q3' := q3 u hu; go_simp; first | done | exact rfl)); simp only [Act.put, List.setIfInBounds_toArray, List.set_cons_zero, List.set_cons_succ])
      | (refine SeqL.call _ _ _ (by rfl) ?_ hC1.out ?_; (focus (intro u; go_simp; done)); simp only [Act.put, List.setIfInBounds_toArray, List.set_cons_zero, List.set_cons_succ])
      | (refine SeqL.call _ _ _ (by rfl) ?_ hC2.out ?_; (focus (intro u; go_simp; done)); simp only [Act.put, List.setIfInBounds_toArray, List.set_cons_zero, List.set_cons_succ])
      | (refine SeqL.call _ _ _ (by rfl) ?_ hC3.out ?_; (focus (intro u; go_simp; done)); simp only [Act.put, List.setIfInBounds_toArray, List.set_cons_zero, List.set_cons_succ]))
    refine SeqL.nil ?_
    intro u6 hu6
    have k6 : Kept W u6 := kd.trans hu6
    have c6s := (ys.kept k6).cell 0
    have c6t := (yt.kept k6).cell 0
    clear q1 q2 q3 hC1 hC2 hC3 hu6 kd
    go_wp2_with fail
    refine (HS.out _ k6).mono ?_
    rintro e u7 ⟨rfl, hk7⟩
    have k7 := k6.trans hk7
    have c7s := (ys.kept k7).cell 0
    have c7t := (yt.kept k7).cell 0
    clear c6s c6t hk7 k6
    cases b with
    | false =>
      obtain ⟨rfl, rfl⟩ := HF1.out HB.out
      simp only [List.length_nil] at c7t
      go_wp2
      go_ret
      exact ⟨rfl, jK.trans k7⟩
    | true =>
      cases ok with
      | false =>
        obtain rfl := HF2.out HB.out rfl
        go_wp2_with fail
        refine (sameInts_ok _ _ _ _ _ rs (jIt.kept k7) (jIs.kept k7) hrl).mono ?_
        rintro e u8 ⟨rfl, hk8⟩
        go_wp2
        go_ret
        exact ⟨rfl, (jK.trans k7).trans hk8⟩
      | true =>
        obtain ⟨_, s', t1, t2, t3, t4, t5, t6, t7, t8, t9, t10⟩ := HF3.out rfl
        have hrL : rs.length * 8 ≤ 140737488351232 := by omega
        have hKt := fun (u : World) (hu : Kept W u) => impl_KindAt_ok u _ lc rs at' (jIt.kept hu) hrL
        have hZt := fun (u : World) (hu : Kept W u) => impl_SizeAt_ok u _ lc rs at' (jIt.kept hu) hrL
        have hKs := fun (u : World) (hu : Kept W u) => impl_KindAt_ok u _ cp zs at' (jIs.kept hu) hL
        have hOt := fun (u : World) (hu : Kept W u) => impl_SlabOk_ok u _ lc rs (jIt.kept hu) hrL
        rw [t1] at hKt
        rw [t2] at hZt
        rw [t5] at hKs
        rw [t6] at hOt
        have hroom := room_le zs
        have hs91 : (s' : Int) ≤ 91 := by omega
        have HT7 : Hid (room rs + s' = room zs) := t7
        have HT8 : Hid (slabOk (giveL rs at') = true) := t8
        have HT9 : Hid (room (giveL rs at') = room zs) := t9
        have HKt : Hid _ := hKt
        have HZt : Hid _ := hZt
        have HKs : Hid _ := hKs
        have HOt : Hid _ := hOt
        clear t1 t2 t5 t6 t7 t8 t9 t10 hKt hZt hKs hOt
        go_wp2_with fail
        refine (HKt.out _ k7).mono ?_
        rintro e u8 ⟨rfl, hk8⟩
        have k8 := k7.trans hk8
        have c8s := (ys.kept k8).cell 0
        have c8t := (yt.kept k8).cell 0
        clear c7s c7t hk8 k7
        go_wp2_with fail
        refine (HZt.out _ k8).mono ?_
        rintro e u9 ⟨rfl, hk9⟩
        have k9 := k8.trans hk9
        have c9s := (ys.kept k9).cell 0
        have c9t := (yt.kept k9).cell 0
        clear c8s c8t hk9 k8
        go_wp2_with fail
        refine (HZt.out _ k9).mono ?_
        rintro e u10 ⟨rfl, hk10⟩
        have k10 := k9.trans hk10
        have c10s := (ys.kept k10).cell 0
        have c10t := (yt.kept k10).cell 0
        clear c9s c9t hk10 k9
        go_wp2_with fail
        refine (HKs.out _ k10).mono ?_
        rintro e u11 ⟨rfl, hk11⟩
        have k11 := k10.trans hk11
        have c11s := (ys.kept k11).cell 0
        have c11t := (yt.kept k11).cell 0
        clear c10s c10t hk11 k10
        go_wp2_with fail
        refine (HOt.out _ k11).mono ?_
        rintro e u12 ⟨rfl, hk12⟩
        have k12 := k11.trans hk12
        have c12s := (ys.kept k12).cell 0
        have c12t := (yt.kept k12).cell 0
        clear c11s c11t hk12 k11
        go_wp2_with fail
        refine (impl_Give_ok _ _ lc rs at' (jIt.kept k12) hrl).mono ?_
        rintro e u13 ⟨v13, rfl, o13, hk13⟩
        obtain ⟨ga, gc, rfl, hIg⟩ := o13.ints
        have k13 := k12.trans hk13
        have ke : Kept u13 (u13.alloc (.cells #[.slice ga (giveL rs at').length gc] 26)) := Kept.alloc (Below.refl _ _) _
        have xg := Cells.new u13 26 #[.slice ga (giveL rs at').length gc]
        have zs13 := (ys.kept k13).kept ke
        have zt13 := (yt.kept k13).kept ke
        have jg := hIg.kept ke
        have k14 := k13.trans ke
        obtain ⟨Bg, hBg⟩ : ∃ Bg, u13.heap.size = Bg := ⟨_, rfl⟩
        go_wp2_with fail
        obtain ⟨V, hV⟩ : ∃ V, u13.alloc (.cells #[.slice ga (giveL rs at').length gc] 26) = V := ⟨_, rfl⟩
        rw [hBg] at xg
        rw [hV] at xg zs13 zt13 jg k14
        rw [hV]
        have kd : Kept V V.drew := (Below.refl _ V).drew
        have q1 : ∀ u, Kept V.drew u → u.cell? ⟨Bs, 0, none⟩ = some (.slice ao zs.length cp) := fun u hu => (zs13.kept (kd.trans hu)).cell 0
        have q2 : ∀ u, Kept V.drew u → u.cell? ⟨Bt, 0, none⟩ = some (.slice la rs.length lc) := fun u hu => (zt13.kept (kd.trans hu)).cell 0
        have q3 : ∀ u, Kept V.drew u → u.cell? ⟨Bg, 0, none⟩ = some (.slice ga (giveL rs at').length gc) := fun u hu => (xg.kept (kd.trans hu)).cell 0
        have hgL : (giveL rs at').length * 8 ≤ 140737488351232 := by rw [giveL_len]; exact hrL
        have hC1 : Hid (∀ u, Kept V.drew u → Calls Try.prog 16 #[.agg #[.slice ga (giveL rs at').length gc]] u fun e w' => e = .returned (.int .i64 ((room zs : Nat) : Int)) ∧ Kept u w') := fun u hu => by have := impl_Room_ok u _ gc _ (jg.kept (kd.trans hu)) hgL; rw [HT9.out] at this; exact this
        have hC2 : Hid (∀ u, Kept V.drew u → Calls Try.prog 16 #[.agg #[.slice ao zs.length cp]] u fun e w' => e = .returned (.int .i64 ((room zs : Nat) : Int)) ∧ Kept u w') := fun u hu => impl_Room_ok u _ cp _ (jIs.kept (k14.trans (kd.trans hu))) hL
        have hC3 : Hid (∀ u, Kept V.drew u → Calls Try.prog 16 #[.agg #[.slice la rs.length lc]] u fun e w' => e = .returned (.int .i64 ((room rs : Nat) : Int)) ∧ Kept u w') := fun u hu => impl_Room_ok u _ lc _ (jIt.kept (k14.trans (kd.trans hu))) hrL
        have hC4 : Hid (∀ u, Kept V.drew u → Calls Try.prog 14 #[.agg #[.slice la rs.length lc], .int .i64 at'] u fun e w' => e = .returned (.int .i64 (s' : Int)) ∧ Kept u w') := fun u hu => HZt.out u (k14.trans (kd.trans hu))
        have hC5 : Hid (∀ u, Kept V.drew u → Calls Try.prog 11 #[.agg #[.slice ga (giveL rs at').length gc]] u fun e w' => e = .returned (.bool true) ∧ Kept u w') := fun u hu => by have := impl_SlabOk_ok u _ gc _ (jg.kept (kd.trans hu)) hgL; rw [HT8.out] at this; exact this
        have e1 : (((room rs : Nat) : Int) == ((room zs : Nat) : Int) - (s' : Int)) = true := by have := HT7.out; simp; omega
        have r1 : IntKind.i64.wrap (((room zs : Nat) : Int) - (s' : Int)) = ((room zs : Nat) : Int) - (s' : Int) := IntWalk.i64_in _ ⟨by omega, by omega⟩
        clear hV hBg xg zs13 zt13 ke hIg o13 hk13
        refine wp_region_seqL (by kernel_rfl) (by kernel_rfl) ?_
        repeat (first
          | (refine SeqL.skip (by rfl) ?_; simp only [Act.put, List.setIfInBounds_toArray, List.set_cons_zero, List.set_cons_succ])
          | (refine SeqL.pure ?_ (by rfl) ?_ ?_; rotate_left; (focus (intro u hu; have q1' := q1 u hu; have q2' := q2 u hu; have q3' := q3 u hu; go_simp; first | done | exact rfl)); simp only [Act.put, List.setIfInBounds_toArray, List.set_cons_zero, List.set_cons_succ])
          | (refine SeqL.call _ _ _ (by rfl) ?_ hC1.out ?_; (focus (intro u; go_simp; done)); simp only [Act.put, List.setIfInBounds_toArray, List.set_cons_zero, List.set_cons_succ])
          | (refine SeqL.call _ _ _ (by rfl) ?_ hC2.out ?_; (focus (intro u; go_simp; done)); simp only [Act.put, List.setIfInBounds_toArray, List.set_cons_zero, List.set_cons_succ])
          | (refine SeqL.call _ _ _ (by rfl) ?_ hC3.out ?_; (focus (intro u; go_simp; done)); simp only [Act.put, List.setIfInBounds_toArray, List.set_cons_zero, List.set_cons_succ])
          | (refine SeqL.call _ _ _ (by rfl) ?_ hC4.out ?_; (focus (intro u; go_simp; done)); simp only [Act.put, List.setIfInBounds_toArray, List.set_cons_zero, List.set_cons_succ])
          | (refine SeqL.call _ _ _ (by rfl) ?_ hC5.out ?_; (focus (intro u; go_simp; done)); simp only [Act.put, List.setIfInBounds_toArray, List.set_cons_zero, List.set_cons_succ]))
        refine SeqL.nil ?_
        intro u15 hu15
        go_wp2
        go_ret
        exact ⟨rfl, (jK.trans k14).trans (kd.trans hu15)⟩

set_option maxRecDepth 100000 in
theorem lifted (os : Os) (started : os.Started) (H : Type) (enc : TypeId × Value → H) :
    ReturnsInHanded {} Try.checked os 3 .any (Rows.fnTakenSpec.pre6 enc Try.prog Try.f3 Rows.fnTakenRow.domain false) (Rows.fnTakenSpec.post enc Try.prog Try.f3 false true false false) := by
  refine returnsInHanded_of_change (C := Try.checked) own started (by kernel_rfl) Try.func3
    (ChangeSpec.witness6 (enc := enc) (C := Try.checked) false ⟨#[], #[.slice none 0 0], []⟩ 8 (by kernel_rfl) (by kernel_rfl) (by kernel_rfl) (by kernel_rfl)) ?_
  intro W base args ds gs before hval0 hW hcnd _
  have hval : ∀ (j : Nat) t v, Try.f3.params[j]? = some t → args[j]? = some v → Value.okWide Try.prog W .any base t v := hval0
  have hW' := hW
  obtain ⟨p, q, hA0, hV, rfl, hfz, hnd⟩ := hW
  have hA : DataW.TrodAll enc Try.prog W 0 (fun _ => true) true Try.f3.params.toList args.toList ds p := hA0
  rw [Try.params3] at hA hval
  obtain ⟨v0, vs0, d0, ds0, p0, q0, hargs, rfl, rfl, h0, r0⟩ := trodAll_cons hA
  obtain ⟨rfl, rfl, rfl⟩ := trodAll_nil r0
  obtain rfl : args = #[v0] := by cases args; simp_all
  obtain ⟨rfl, rfl⟩ := trodVars_none hV
  obtain ⟨a0, len0, cap0, rfl⟩ := okWide_slice Try.underlying22 (hval 0 22 v0 rfl rfl)
  have k0 := h0
  have lt0 : ∀ x ∈ p0, x.block < W.heap.size := by obtain ⟨m, hm⟩ := k0; exact DataW.trod_lt m _ _ _ hm
  obtain ⟨z0, w0⟩ : ∃ zs, IsRow .u8 W a0 len0 cap0 zs := by
    obtain ⟨fuel, hf⟩ := h0
    rcases open_ints Try.underlying22 Try.underlying5 (by kernel_rfl) hf with ⟨hcs, _⟩ | ⟨x, l, c, zs, hcs, _, hl, hm, hz, _, hcell, hwz⟩
    · simp [Value.cells] at hcs
      obtain ⟨rfl, rfl, rfl⟩ := hcs
      exact ⟨[], .inl ⟨rfl, rfl, rfl, rfl⟩⟩
    · simp [Value.cells] at hcs
      obtain ⟨rfl, rfl, rfl⟩ := hcs
      exact ⟨zs, .inr ⟨_, rfl, hl, hm, by simpa using hz, hcell, hwz⟩⟩
  clear hA0 hval0
  refine (walk a0 len0 cap0 z0 W w0).mono fun e W' ⟨he, bel⟩ => ?_
  subst he
  exact ⟨_, rfl, _, _, _, [], _, [], hW', trodAll_mk1 (shut_bool Try.underlying4 _), (trodAll_cons_mk (Below.trod laidOut (by kernel_rfl) (of_decide_eq_true (by kernel_rfl)) k0 bel lt0) trodAll_mk0), rfl, bel.frame _, fun h => by cases h⟩

theorem over : Rows.fnTakenRow.holds Try.pinned (OpenSpec.ofChange Rows.fnTakenSpec) :=
  OpenClaim.holds_of_wide 3 Try.f3 rfl rfl rfl rfl rfl rfl rfl ⟨rfl, rfl, rfl, rfl, rfl⟩ rfl rfl rfl rfl rfl (by kernel_rfl) Try.func3 (by kernel_rfl)
    (of_decide_eq_true (by kernel_rfl)) (by unfold Func.isWrapper; first | (rw [if_pos (by decide +kernel)]; kernel_rfl) | (rw [if_neg (by decide +kernel)]; exact ⟨rfl, rfl⟩))
    (fun os started H enc _ => lifted os started H enc)

theorem proved : Rows.FnTakenSaid := over
#print axioms proved
end Go.Proofs.Ytaclgpkcdbikhaa.fnTaken
