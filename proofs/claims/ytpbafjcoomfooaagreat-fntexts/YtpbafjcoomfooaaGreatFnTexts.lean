/-
  The law FnTexts is proved: for every slice of bytes, the text that is drawn of it and put into the heap that is drawn is found there and is its bytes, put twice it takes no more room; the program's TextPut, TextFind and TextOf answer as their models; nothing that was there is written.
-/
import Derived.Test.YtpbafjcoomfooaaGreatRows
import Derived.WalkKit
import Derived.ProofKit
import Derived.OpenShut
import Derived.ShutString
import Derived.ChangeOld
import Derived.Below
import Derived.Deep.RegionWith
import Derived.Deep.CutRange
import Derived.Test.YtpbafjcoomfooaaGreatGrpI
import Derived.Test.YtpbafjcoomfooaaGreatGrpM
import Derived.Test.YtpbafjcoomfooaaGreatGrpK
import Derived.Test.YtpbafjcoomfooaaGreatZTextB
import Derived.Test.YtpbafjcoomfooaaGreatGrpF
import Derived.Test.YtpbafjcoomfooaaGreatZShapeQ
import Derived.Test.YtpbafjcoomfooaaGreatGrpD
namespace Go.Proofs.YtpbafjcoomfooaaGreat.fnTexts
open Go.ChangeShapes Go.WideShapes Go.ChangeAt Go.RowKit
open Go.ChangeMaps (open_string shut_string)
set_option linter.unusedVariables false

theorem own : ownKnob Tryz.prog.godebug = none := by kernel_rfl
theorem laidOut : laidOutB Tryz.prog = true := by kernel_rfl

/-- WHAT THE WALK IS TOLD OF A SLICE OF INTEGERS THAT CAME IN: it is nil; or it leads to a row of 'cap' cells, the numbers 'zs' (the first 'len' are its elements, the rest its spare room), each fitting its kind. -/
def IsRow (k : IntKind) (w : World) (a : Option Addr) (len cap : Nat) (zs : List Int) : Prop :=
  (a = none ∧ len = 0 ∧ cap = 0 ∧ zs = []) ∨
  ∃ x, a = some x ∧ len ≤ cap ∧ cap ≤ maxLen ∧ zs.length = cap ∧ (∀ i, i < zs.length → w.cell? (x.add i) = some (.int k (zs.getD i 0))) ∧ ∀ n ∈ zs, (Lit.int k n).wf = true

set_option maxRecDepth 100000 in
set_option maxHeartbeats 32000000 in

theorem walk (a0 : Option Addr) (len0 cap0 : Nat) (z0 : List Int) (w : World) (w0 : IsRow .u8 w a0 len0 cap0 z0) :
    Calls Tryz.prog 3 #[.slice a0 len0 cap0] w fun e w' => e = .returned (.bool true) ∧ Below w.heap.size w w' := by
  have hs := src_of w0
  clear w0
  have hlen := hs.1
  by_cases hbig : (1048576 : Int) < (len0 : Int)
  · go_enter Tryz.func3, Tryz.ntmps3
    go_wp2_with (first | (go_at_call 6; go_in))
    go_ret
    exact ⟨rfl, Below.refl _ _⟩
  · have hD := DrawTextPut_ok a0 len0 cap0 _ _ hs
    go_enter Tryz.func3, Tryz.ntmps3
    go_wp2_with (first | (go_at_call 6; go_in))
    refine hD.mono ?_
    rintro e w1 ⟨v, zs, t, rfl, hO, hl, hts, hK1⟩
    obtain ⟨ao, cp, rfl, hI, _, hcp⟩ := hO
    have hl' : zs.length ≤ 1048576 := by omega
    obtain ⟨rs, aT, ok, hrl, hP1, hP2, hF, hT⟩ := TextPut_law zs t hl'
    have HF : Hid _ := hF
    have HT : Hid _ := hT
    have ka : Kept w1 (w1.alloc (.cells #[.slice ao zs.length cp] 26)) := Kept.alloc (Below.refl _ _) _
    have xs := Cells.new w1 26 #[.slice ao zs.length cp]
    have hIa := hI.kept ka
    have hKa := hK1.trans ka
    have hH1 := hP1 _ ao cp hIa hcp
    clear hD ka hI hK1 hP1 hF hT
    go_wp2_with fail
    refine hH1.mono ?_
    rintro e w2 ⟨vu, rfl, hOu, hk2⟩
    obtain ⟨ua, up, rfl, hIu, _, hup⟩ := hOu.ownI
    have x2 := xs.kept hk2
    have hI2 := hIa.kept hk2
    have K2 := hKa.trans hk2
    clear hH1 xs hIa hKa hk2 hOu
    have kb : Kept w2 (w2.alloc (.cells #[.slice ua rs.length up] 26)) := Kept.alloc (Below.refl _ _) _
    have xu := Cells.new w2 26 #[.slice ua rs.length up]
    have x3 := x2.kept kb
    have hI3 := hI2.kept kb
    have hIu3 := hIu.kept kb
    have K3 := K2.trans kb
    have c3 := x3.cell 0
    have hH2 := hP2 _ ao cp hI3
    clear x2 hI2 hIu K2 kb hP2
    go_wp2_with fail
    obtain ⟨W3, hW3⟩ : ∃ W3, w2.alloc (.cells #[.slice ua rs.length up] 26) = W3 := ⟨_, rfl⟩
    obtain ⟨BZ, hBZ⟩ : ∃ BZ, w1.heap.size = BZ := ⟨_, rfl⟩
    obtain ⟨BU, hBU⟩ : ∃ BU, w2.heap.size = BU := ⟨_, rfl⟩
    rw [hW3] at xu x3 hI3 hIu3 K3 hH2
    rw [hBU] at xu
    rw [hBZ] at x3
    simp only [hW3, hBZ, hBU]
    clear c3 hW3 hBZ hBU
    refine hH2.mono ?_
    rintro e w4 ⟨vw, rfl, hOw, hk4⟩
    obtain ⟨wa, wp, rfl, hIw, _, _⟩ := hOw.ownI
    have kc : Kept w4 (w4.alloc (.cells #[.slice wa rs.length wp] 26)) := Kept.alloc (Below.refl _ _) _
    have xw := Cells.new w4 26 #[.slice wa rs.length wp]
    have x5 := (x3.kept hk4).kept kc
    have xu5 := (xu.kept hk4).kept kc
    have hI5 := (hI3.kept hk4).kept kc
    have hIu5 := (hIu3.kept hk4).kept kc
    have hIw5 := hIw.kept kc
    have K5 := (K3.trans hk4).trans kc
    have n1 : (ok != ok) = false := by simp
    have n2 : (aT != aT) = false := by simp
    have cu5 := xu5.cell 0
    have cw5 := xw.cell 0
    have hS := sameInts_ok _ ua wa up wp rs hIu5 hIw5 hrl
    clear hH2 hOw x3 xu hI3 hIu3 hIw K3 hk4 kc
    go_wp2_with fail
    refine hS.mono ?_
    rintro e w6 ⟨rfl, hk6⟩
    have x6 := x5.kept hk6
    have xu6 := xu5.kept hk6
    have hI6 := hI5.kept hk6
    have hIu6 := hIu5.kept hk6
    have K6 := K5.trans hk6
    have hD2 := DrawTextOf_ok a0 len0 cap0 _ _ (hs.below K6)
    clear hS xw cw5 cu5 hIw5 x5 xu5 hI5 hIu5 K5 hk6
    go_wp2_with fail
    refine hD2.mono ?_
    rintro e w7 ⟨vh, hsL, x, rfl, hOh, hlh, hxb, hk7⟩
    obtain ⟨ha, hp, rfl, hIh, _, _⟩ := hOh
    have kd : Kept w7 (w7.alloc (.cells #[.slice ha hsL.length hp] 26)) := Kept.alloc (Below.refl _ _) _
    have xh := Cells.new w7 26 #[.slice ha hsL.length hp]
    have x8 := (x6.kept hk7).kept kd
    have xu8 := (xu6.kept hk7).kept kd
    have hI8 := (hI6.kept hk7).kept kd
    have hIu8 := (hIu6.kept hk7).kept kd
    have hIh8 := hIh.kept kd
    have K8 := (K6.trans hk7).trans kd
    have hD3 := DrawTextFind_ok a0 len0 cap0 _ _ (hs.below K8)
    clear hD2 x6 xu6 hI6 hIu6 K6 hk7 kd hIh
    go_wp2_with fail
    refine hD3.mono ?_
    rintro e w9 ⟨vf, fs, q, rfl, hOf, hlf, hqs, hk9⟩
    obtain ⟨fa, fp, rfl, hIf, _, hfp⟩ := hOf
    have ke : Kept w9 (w9.alloc (.cells #[.slice fa fs.length fp] 26)) := Kept.alloc (Below.refl _ _) _
    have xf := Cells.new w9 26 #[.slice fa fs.length fp]
    have x10 := (x8.kept hk9).kept ke
    have xu10 := (xu8.kept hk9).kept ke
    have xh10 := (xh.kept hk9).kept ke
    have hI10 := (hI8.kept hk9).kept ke
    have hIu10 := (hIu8.kept hk9).kept ke
    have hIh10 := (hIh8.kept hk9).kept ke
    have hIf10 := hIf.kept ke
    have K10 := (K8.trans hk9).trans ke
    have hf' : fs.length ≤ 1048576 := by omega
    have hh' : hsL.length ≤ 1048576 := by omega
    have hFi := impl_TextFind_ok _ fa fp fs q hIf10 hf' hfp
    obtain ⟨y, fd, hyf⟩ : ∃ y fd, textFindV fs q = .tuple #[.int .i64 y, .bool fd] := by
      unfold textFindV
      split
      · unfold findV
        split <;> exact ⟨_, _, rfl⟩
      · exact ⟨_, _, rfl⟩
    rw [hyf] at hFi
    have HY : Hid _ := hyf
    clear hD3 x8 xu8 hI8 hIu8 hIh8 K8 hk9 ke hIf xh hyf
    go_wp2_with fail
    refine hFi.mono ?_
    rintro e w11 ⟨rfl, hk11⟩
    have x11 := x10.kept hk11
    have xu11 := xu10.kept hk11
    have xh11 := xh10.kept hk11
    have xf11 := xf.kept hk11
    have cf11 := xf11.cell 0
    have hI11 := hI10.kept hk11
    have hIu11 := hIu10.kept hk11
    have hIh11 := hIh10.kept hk11
    have K11 := K10.trans hk11
    have hFs := spec_TextFind_ok _ fa fp fs q (hIf10.kept hk11) hf'
    rw [HY.out] at hFs
    clear hFi x10 xu10 xh10 hI10 hIu10 hIh10 hIf10 K10 hk11 xf
    go_wp2_with fail
    refine hFs.mono ?_
    rintro e w12 ⟨rfl, hk12⟩
    have x12 := x11.kept hk12
    have xu12 := xu11.kept hk12
    have xh12 := xh11.kept hk12
    have hI12 := hI11.kept hk12
    have hIu12 := hIu11.kept hk12
    have hIh12 := hIh11.kept hk12
    have K12 := K11.trans hk12
    clear hFs x11 xu11 xh11 xf11 cf11 hI11 hIu11 hIh11 K11 hk12
    obtain ⟨BH, hBH⟩ : ∃ BH, w7.heap.size = BH := ⟨_, rfl⟩
    rw [hBH] at xh12
    go_wp2_with fail
    clear hBH
    have n3 : (y != y) = false := by simp
    have n4 : (fd != fd) = false := by simp
    have kd7 : ∀ u, Kept w12.drew u → Kept w12 u := fun u hu => Kept.trans (Below.refl _ w12).drew hu
    have y0 : ∀ u, Kept w12.drew u → u.cell? ⟨BH, 0, none⟩ = some (.slice ha hsL.length hp) := fun u hu => (xh12.kept (kd7 u hu)).cell 0
    obtain ⟨T, hTx⟩ : ∃ T, textOfR hsL x = T := ⟨_, rfl⟩
    have C1 : Hid (∀ u, Kept w12.drew u → Calls Tryz.prog 15 #[.agg #[.slice ha hsL.length hp], .int .i64 x] u fun e w' => e = .returned (.string T) ∧ Kept u w') := fun u hu => by have := impl_TextOf_ok u ha hp hsL x (hIh12.kept (kd7 u hu)) hh' hxb.1 hxb.2; rw [hTx] at this; exact this
    have C2 : Hid (∀ u, Kept w12.drew u → Calls Tryz.prog 16 #[.agg #[.slice ha hsL.length hp], .int .i64 x] u fun e w' => e = .returned (.string T) ∧ Kept u w') := fun u hu => by have := spec_TextOf_ok u ha hp hsL x (hIh12.kept (kd7 u hu)) hh' hxb.1 hxb.2; rw [hTx] at this; exact this
    clear hTx
    refine wp_region_seqL (by kernel_rfl) (by kernel_rfl) ?_
    repeat (first
      | (refine SeqL.skip (by rfl) ?_; simp only [Act.put, List.setIfInBounds_toArray, List.set_cons_zero, List.set_cons_succ])
      | (refine SeqL.pure ?_ (by rfl) ?_ ?_; rotate_left; (focus (intro u hu; have y0' := y0 u hu; go_simp; first | done | exact rfl)); simp only [Act.put, List.setIfInBounds_toArray, List.set_cons_zero, List.set_cons_succ])
      | (refine SeqL.call _ _ _ (by rfl) ?_ C1.out ?_; (focus (intro u; go_simp; done)); simp only [Act.put, List.setIfInBounds_toArray, List.set_cons_zero, List.set_cons_succ])
      | (refine SeqL.call _ _ _ (by rfl) ?_ C2.out ?_; (focus (intro u; go_simp; done)); simp only [Act.put, List.setIfInBounds_toArray, List.set_cons_zero, List.set_cons_succ]))
    refine SeqL.nil ?_
    intro w13 hu13
    have k13 := kd7 w13 hu13
    have x13 := x12.kept k13
    have xu13 := xu12.kept k13
    have hI13 := hI12.kept k13
    have hIu13 := hIu12.kept k13
    have K13 := K12.trans k13
    have cu13 := xu13.cell 0
    have cz13 := x13.cell 0
    clear y0 C1 C2 kd7 hu13 k13 x12 xu12 hI12 hIu12 K12 hIh12 xh12 n3 n4 HY
    cases ok with
    | false =>
      obtain ⟨eA, hrs⟩ := HF.out rfl
      subst eA
      clear HT HF
      by_cases h0 : rs.length = 0
      · rw [h0] at cu13
        go_wp2_with fail
        go_ret
        exact ⟨rfl, K13⟩
      · have hrz : rs = zs := by
          rcases hrs with h | h
          · rw [h] at h0; simp at h0
          · exact h
        subst hrz
        have h1 : ((rs.length : Int) == 0) = false := by rw [beq_eq_false_iff_ne]; omega
        have hS2 := sameInts_ok _ ua ao up cp rs hIu13 hI13 hrl
        go_wp2_with fail
        refine hS2.mono ?_
        rintro e w14 ⟨rfl, hk14⟩
        go_wp2_with fail
        go_ret
        exact ⟨rfl, K13.trans hk14⟩
    | true =>
      obtain ⟨hh, b1, b2, hTO, hFV, hPA⟩ := HT.out rfl
      clear HT HF
      have hFi2 := impl_TextFind_ok _ ua up rs t hIu13 hrl hup
      rw [hFV] at hFi2
      go_wp2_with fail
      refine hFi2.mono ?_
      rintro e w14 ⟨rfl, hk14⟩
      have xu14 := xu13.kept hk14
      have cu14 := xu14.cell 0
      have hIu14 := hIu13.kept hk14
      have K14 := K13.trans hk14
      have hP3 := hPA _ ua up hIu14 hup
      clear hFi2 cu13 cz13 x13 xu13 hI13 hIu13 K13 hk14
      go_wp2_with fail
      refine hP3.mono ?_
      rintro e w15 ⟨vg, rfl, hOg, hk15⟩
      obtain ⟨ga, gp, rfl, hIg, _, _⟩ := hOg.ownI
      have kf : Kept w15 (w15.alloc (.cells #[.slice ga rs.length gp] 26)) := Kept.alloc (Below.refl _ _) _
      have xg := Cells.new w15 26 #[.slice ga rs.length gp]
      have xu16 := (xu14.kept hk15).kept kf
      have hIu16 := (hIu14.kept hk15).kept kf
      have hIg16 := hIg.kept kf
      have K16 := (K14.trans hk15).trans kf
      have cg16 := xg.cell 0
      have cu16 := xu16.cell 0
      have hS3 := sameInts_ok _ ga ua gp up rs hIg16 hIu16 hrl
      have n5 : (aT == aT) = true := by simp
      clear hP3 hOg xu14 cu14 hIu14 K14 hk15 kf hIg hPA
      go_wp2_with fail
      refine hS3.mono ?_
      rintro e w17 ⟨rfl, hk17⟩
      have xu17 := xu16.kept hk17
      have cu17 := xu17.cell 0
      have hIu17 := hIu16.kept hk17
      have K17 := K16.trans hk17
      have hT3 := impl_TextOf_ok _ ua up rs aT hIu17 hrl b1 b2
      rw [hTO] at hT3
      clear hS3 xg cg16 cu16 xu16 hIu16 hIg16 K16 hk17
      go_wp2_with fail
      refine hT3.mono ?_
      rintro e w18 ⟨rfl, hk18⟩
      have cu18 := (xu17.kept hk18).cell 0
      have hH3 := impl_HeapOk_ok _ ua up rs (hIu17.kept hk18) hrl
      rw [hh] at hH3
      have n6 : (t == t) = true := by rw [beq_toListBytes]; exact beq_self_eq_true _
      have n7 : (t.toList == t.toList) = true := beq_self_eq_true _
      have K18 := K17.trans hk18
      clear hT3 xu17 cu17 hIu17 K17 hk18
      go_wp2_with fail
      refine hH3.mono ?_
      rintro e w19 ⟨rfl, hk19⟩
      go_wp2_with fail
      go_ret
      exact ⟨rfl, K18.trans hk19⟩

set_option maxRecDepth 100000 in
theorem lifted (os : Os) (started : os.Started) (H : Type) (enc : TypeId × Value → H) :
    ReturnsInHanded {} Tryz.checked os 3 .any (Rows.fnTextsSpec.pre6 enc Tryz.prog Tryz.f3 Rows.fnTextsRow.domain false) (Rows.fnTextsSpec.post enc Tryz.prog Tryz.f3 false true false false) := by
  refine returnsInHanded_of_change (C := Tryz.checked) own started (by kernel_rfl) Tryz.func3
    (ChangeSpec.witness6 (enc := enc) (C := Tryz.checked) false ⟨#[], #[.slice none 0 0], []⟩ 8 (by kernel_rfl) (by kernel_rfl) (by kernel_rfl) (by kernel_rfl)) ?_
  intro W base args ds gs before hval0 hW hcnd _
  have hval : ∀ (j : Nat) t v, Tryz.f3.params[j]? = some t → args[j]? = some v → Value.okWide Tryz.prog W .any base t v := hval0
  have hW' := hW
  obtain ⟨p, q, hA0, hV, rfl, hfz, hnd⟩ := hW
  have hA : DataW.TrodAll enc Tryz.prog W 0 (fun _ => true) true Tryz.f3.params.toList args.toList ds p := hA0
  rw [Tryz.params3] at hA hval
  obtain ⟨v0, vs0, d0, ds0, p0, q0, hargs, rfl, rfl, h0, r0⟩ := trodAll_cons hA
  obtain ⟨rfl, rfl, rfl⟩ := trodAll_nil r0
  obtain rfl : args = #[v0] := by cases args; simp_all
  obtain ⟨rfl, rfl⟩ := trodVars_none hV
  obtain ⟨a0, len0, cap0, rfl⟩ := okWide_slice Tryz.underlying22 (hval 0 22 v0 rfl rfl)
  have k0 := h0
  have lt0 : ∀ x ∈ p0, x.block < W.heap.size := by obtain ⟨m, hm⟩ := k0; exact DataW.trod_lt m _ _ _ hm
  obtain ⟨z0, w0⟩ : ∃ zs, IsRow .u8 W a0 len0 cap0 zs := by
    obtain ⟨fuel, hf⟩ := h0
    rcases open_ints Tryz.underlying22 Tryz.underlying5 (by kernel_rfl) hf with ⟨hcs, _⟩ | ⟨x, l, c, zs, hcs, _, hl, hm, hz, _, hcell, hwz⟩
    · simp [Value.cells] at hcs
      obtain ⟨rfl, rfl, rfl⟩ := hcs
      exact ⟨[], .inl ⟨rfl, rfl, rfl, rfl⟩⟩
    · simp [Value.cells] at hcs
      obtain ⟨rfl, rfl, rfl⟩ := hcs
      exact ⟨zs, .inr ⟨_, rfl, hl, hm, by simpa using hz, hcell, hwz⟩⟩
  clear hA0 hval0
  refine (walk a0 len0 cap0 z0 W w0).mono fun e W' ⟨he, bel⟩ => ?_
  subst he
  exact ⟨_, rfl, _, _, _, [], _, [], hW', trodAll_mk1 (shut_bool Tryz.underlying4 _), (trodAll_cons_mk (Below.trod laidOut (by kernel_rfl) (of_decide_eq_true (by kernel_rfl)) k0 bel lt0) trodAll_mk0), rfl, bel.frame _, fun h => by cases h⟩

theorem over : Rows.fnTextsRow.holds Tryz.pinned (OpenSpec.ofChange Rows.fnTextsSpec) :=
  OpenClaim.holds_of_wide 3 Tryz.f3 rfl rfl rfl rfl rfl rfl rfl ⟨rfl, rfl, rfl, rfl, rfl⟩ rfl rfl rfl rfl rfl (by kernel_rfl) Tryz.func3 (by kernel_rfl)
    (of_decide_eq_true (by kernel_rfl)) (by unfold Func.isWrapper; first | (rw [if_pos (by decide +kernel)]; kernel_rfl) | (rw [if_neg (by decide +kernel)]; exact ⟨rfl, rfl⟩))
    (fun os started H enc _ => lifted os started H enc)

theorem proved : Rows.FnTextsSaid := over
#print axioms proved
end Go.Proofs.YtpbafjcoomfooaaGreat.fnTexts
