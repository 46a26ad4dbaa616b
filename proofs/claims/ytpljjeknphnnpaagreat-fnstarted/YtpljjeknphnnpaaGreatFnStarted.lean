/-
  The law FnStarted is proved: for every slice of bytes, marking of the heap and of the values that are drawn of it starts as the model has it; it starts with no block that can't be reached, no black block leads to one that was not met, and it ends with all that can be reached; where the values are not right it rests; nothing that was there is written.
-/
import Derived.Test.YtpljjeknphnnpaaGreatRows
import Derived.WalkKit
import Derived.ProofKit
import Derived.OpenShut
import Derived.ShutString
import Derived.ChangeOld
import Derived.Below
import Derived.Deep.RegionWith
import Derived.Deep.CutRange
import Derived.Test.YtpljjeknphnnpaaGreatGrpSM
import Derived.Test.YtpljjeknphnnpaaGreatGrpSt
import Derived.Test.YtpljjeknphnnpaaGreatGrpSS
import Derived.Test.YtpljjeknphnnpaaGreatGrpMr
namespace Go.Proofs.YtpljjeknphnnpaaGreat.fnStarted
open Go.ChangeShapes Go.WideShapes Go.ChangeAt Go.RowKit
open Go.ChangeMaps (open_string shut_string)
set_option linter.unusedVariables false

theorem own : ownKnob Tryz.prog.godebug = none := by kernel_rfl
theorem laidOut : laidOutB Tryz.prog = true := by kernel_rfl

/-- WHAT THE WALK IS TOLD OF A SLICE OF INTEGERS THAT CAME IN: it is nil; or it leads to a row of 'cap' cells, the numbers 'zs' (the first 'len' are its elements, the rest its spare room), each fitting its kind. -/
def IsRow (k : IntKind) (w : World) (a : Option Addr) (len cap : Nat) (zs : List Int) : Prop :=
  (a = none ∧ len = 0 ∧ cap = 0 ∧ zs = []) ∨
  ∃ x, a = some x ∧ len ≤ cap ∧ cap ≤ maxLen ∧ zs.length = cap ∧ (∀ i, i < zs.length → w.cell? (x.add i) = some (.int k (zs.getD i 0))) ∧ ∀ n ∈ zs, (Lit.int k n).wf = true

attribute [local go_sem] field_black
theorem start_len {zs rs : List Int} : (startC zs rs).2.length ≤ rs.length := by
  unfold startC
  split
  · have : ∀ (vs out : List Int), (meetL out vs).length ≤ out.length + vs.length := by
      intro vs
      induction vs with
      | nil => intro out; simp [meetL]
      | cons v vs ih =>
        intro out
        have h1 := ih (addB out (blkV v))
        have h2 : (addB out (blkV v)).length ≤ out.length + 1 := by unfold addB; split <;> simp
        simp only [meetL, List.foldl_cons, List.length_cons] at h1 ⊢
        omega
    simpa using this rs []
  · simp
theorem reach_len (zs rs : List Int) : (reachL zs rs).length ≤ zs.length := by
  unfold reachL
  split
  · rename_i h
    have h1 := (ordL_met h).len
    have h2 := sortF_len (ordL zs rs) []
    unfold sortL
    simp only [List.length_nil, Nat.zero_add] at h2
    omega
  · simp
set_option maxRecDepth 100000 in
set_option maxHeartbeats 32000000 in

theorem walk (a0 : Option Addr) (len0 cap0 : Nat) (z0 : List Int) (w : World) (w0 : IsRow .u8 w a0 len0 cap0 z0) :
    Calls Tryz.prog 3 #[.slice a0 len0 cap0] w fun e w' => e = .returned (.bool true) ∧ Below w.heap.size w w' := by
  have hs := src_of w0
  clear w0
  have hlen := hs.1
  by_cases hbig : (1048576 : Int) < (len0 : Int)
  · go_enter Tryz.func3, Tryz.ntmps3
    go_wp2_with (first | (go_at_call 5; go_in))
    go_ret
    exact ⟨rfl, Below.refl _ _⟩
  · have hD := DrawStart_ok a0 len0 cap0 _ _ hs
    go_enter Tryz.func3, Tryz.ntmps3
    go_wp2_with (first | (go_at_call 5; go_in))
    refine hD.mono ?_
    rintro e w1 ⟨v, zs, rv, rs, rfl, hO, hl, hR, hrl, hK1⟩
    obtain ⟨ao, cp, rfl, hI, _, hcp⟩ := hO
    obtain ⟨ro, rp, rfl, hIr, _, hrp⟩ := hR
    have hl' : zs.length ≤ 1048576 := by omega
    have hr' : rs.length ≤ 1048576 := by omega
    have hgl := start_len (zs := zs) (rs := rs)
    have hrel := reach_len zs rs
    have ka : Kept w1 (w1.alloc (.cells #[.slice ao zs.length cp] 26)) := Kept.alloc (Below.refl _ _) _
    have xs := Cells.new w1 26 #[.slice ao zs.length cp]
    have hIa := hI.kept ka
    have hIra := hIr.kept ka
    have hKa := hK1.trans ka
    have hS1 := impl_Start_ok _ ao ro cp rp zs rs hIa hl' hIra hr'
    have hS2 := fun (u : World) (hu : Ints u ao zs) (hv : Ints u ro rs) => spec_Start_ok u ao ro cp rp zs rs hu hl' hv hr'
    have HT := fun (u : World) (ga ba : Option Addr) (gc bc : Nat) (ph : Int) (gs bs : List Int) (hu : Ints u ao zs) (hm : MkI u ga ba gc bc gs bs) (hgn : ga = none → gc = 0) => impl_TriOk_ok u ao ga ba cp gc bc zs gs bs ph 0 hu hl' hm hgn
    have HM := fun (u : World) (ga ba : Option Addr) (gc bc : Nat) (ph : Int) (gs bs : List Int) (hu : Ints u ao zs) (hm : MkI u ga ba gc bc gs bs) (hgn : ga = none → gc = 0) (hbn : ba = none → bc = 0) => impl_MarkStep_ok u ao ga ba cp gc bc zs gs bs ph 0 2000 hu hl' hm hgn hbn (by omega)
    have HRe := fun (u : World) (hu : Ints u ao zs) (hv : Ints u ro rs) => impl_Reach_ok u ao ro cp rp zs rs hu hl' hv hr'
    have hRo := fun (u : World) (hu : Ints u ao zs) (hv : Ints u ro rs) => spec_RootsOk_ok u ao ro cp rp zs rs hu hl' hv hr'
    obtain ⟨ph, hph⟩ : ∃ ph, (startC zs rs).1 = ph := ⟨_, rfl⟩
    obtain ⟨gs, hgs⟩ : ∃ gs, (startC zs rs).2 = gs := ⟨_, rfl⟩
    obtain ⟨bs, hbs⟩ : ∃ bs : List Int, [] = bs := ⟨_, rfl⟩
    obtain ⟨rr, hrr⟩ : ∃ rr, reachL zs rs = rr := ⟨_, rfl⟩
    rw [hph, hgs, hbs] at hS1
    simp only [hph, hgs, hbs] at hS2
    rw [hgs] at hgl
    have hbl : bs.length ≤ 0 := by rw [← hbs]; simp
    have HF : Hid ((rootsR zs rs = false → ph = 0 ∧ gs = []) ∧ (rootsR zs rs = true → ph = 1 ∧ stepL zs 2000 gs bs = ([], rr) ∧ triR zs 1 gs bs 0 = true ∧ ∀ x ∈ gs, x ∈ rr)) := by
      refine ⟨fun h => ?_, fun h => ?_⟩
      · have : startC zs rs = (0, []) := by unfold startC; rw [h]; simp
        rw [← hph, ← hgs, this]; exact ⟨rfl, rfl⟩
      · have e : startC zs rs = (1, meetL [] rs) := by unfold startC; rw [if_pos h]
        obtain ⟨h1, h2, h3⟩ := started_end h
        rw [← hph, ← hgs, ← hbs, ← hrr, e]
        exact ⟨rfl, h1, h2, h3⟩
    rw [hrr] at hrel
    simp only [hrr] at HRe
    have HPH : Hid (ph = 0 ∨ ph = 1) := by
      rw [Hid, ← hph]; unfold startC; split <;> simp
    clear hph hgs hbs hrr hD ka hI hIr hK1
    have HS2 : Hid _ := hS2
    have HTT : Hid _ := HT
    have HMM : Hid _ := HM
    have HRR : Hid _ := HRe
    have HRO : Hid _ := hRo
    clear hS2 HT HM HRe hRo
    go_wp2_with fail
    refine hS1.mono ?_
    rintro e w2 ⟨m, rfl, hM, hk2⟩
    obtain ⟨ga, ba, gc, bc, rfl, og, ob, _, hgn, hbn⟩ := mkO_two hM
    have hMI := MkI.of og ob (by omega) (by omega)
    have kb : Kept w2 (w2.alloc (.cells #[.int .i64 ph, .slice ga gs.length gc, .slice ba bs.length bc, .int .i64 0] 30)) := Kept.alloc (Below.refl _ _) _
    have xm := Cells.new w2 30 #[.int .i64 ph, .slice ga gs.length gc, .slice ba bs.length bc, .int .i64 0]
    have x3 := (xs.kept hk2).kept kb
    have hI3 := (hIa.kept hk2).kept kb
    have hIr3 := (hIra.kept hk2).kept kb
    have hMI3 := hMI.kept kb
    have K3 := (hKa.trans hk2).trans kb
    clear hS1 xs hIa hIra hKa hk2 hM og ob hMI kb
    go_upto_region 5 with (fail)
    obtain ⟨W, hW⟩ : ∃ W, w2.alloc (.cells #[.int .i64 ph, .slice ga gs.length gc, .slice ba bs.length bc, .int .i64 0] 30) = W := ⟨_, rfl⟩
    obtain ⟨B3, hB3⟩ : ∃ B, w1.heap.size = B := ⟨_, rfl⟩
    obtain ⟨B5, hB5⟩ : ∃ B, w2.heap.size = B := ⟨_, rfl⟩
    rw [hW] at xm x3 hI3 hIr3 hMI3 K3
    rw [hB3] at x3
    rw [hB5] at xm
    simp only [hW, hB3, hB5]
    clear hW hB3 hB5
    have HS : Hid (∀ u, Kept W u → u.cell? ⟨B3, 0, none⟩ = some (.slice ao zs.length cp) ∧ u.cell? ⟨B5, 0, none⟩ = some (.int .i64 ph) ∧ u.cell? ⟨B5, 1, none⟩ = some (.slice ga gs.length gc) ∧ u.cell? ⟨B5, 2, none⟩ = some (.slice ba bs.length bc) ∧ u.cell? ⟨B5, 3, none⟩ = some (.int .i64 0)) := fun u hu => ⟨(x3.kept hu).cell 0, (xm.kept hu).cell 0, (xm.kept hu).cell 1, (xm.kept hu).cell 2, (xm.kept hu).cell 3⟩
    have HI : Hid (∀ u, Kept W u → Ints u ao zs ∧ Ints u ro rs ∧ MkI u ga ba gc bc gs bs) := fun u hu => ⟨hI3.kept hu, hIr3.kept hu, hMI3.kept hu⟩
    clear x3 xm hI3 hIr3 hMI3
    go_cut [22] from 17 to 21 (fun s22 wx => s22 = .bool false ∧ Kept W wx)
    case first =>
      have kd : Kept W W.drew := (Below.refl _ W).drew
      have H0 := HS.out _ kd
      go_region_held3 (fun u => u.cell? ⟨B3, 0, none⟩ = some (.slice ao zs.length cp) ∧ u.cell? ⟨B5, 0, none⟩ = some (.int .i64 ph) ∧ u.cell? ⟨B5, 1, none⟩ = some (.slice ga gs.length gc) ∧ u.cell? ⟨B5, 2, none⟩ = some (.slice ba bs.length bc) ∧ u.cell? ⟨B5, 3, none⟩ = some (.int .i64 0))
        (first | exact HS.out _ (by assumption) | go_keep)
        ((first
            | (go_at_call 9; refine (HS2.out _ (HI.out _ kd).1 (HI.out _ kd).2.1).mono ?_; rintro e w3 ⟨m3, rfl, hM3, hk3⟩; obtain ⟨ga3, ba3, gc3, bc3, rfl, og3, ob3, _, _, _⟩ := mkO_two hM3; have kq : Kept W w3 := kd.trans hk3)
            | (go_at_call 8; refine (sameMarker_yes _ ga ba ga3 ba3 gc bc gc3 bc3 ph 0 gs bs (HI.out _ kq).2.2.g (by obtain ⟨_, _, e', h'⟩ := og3.ints; cases e'; exact h') (HI.out _ kq).2.2.b (by obtain ⟨_, _, e', h'⟩ := ob3.ints; cases e'; exact h') (by omega) (by omega)).mono ?_; rintro e w4 ⟨rfl, hk4⟩; have kq4 : Kept W w4 := kq.trans hk4)))
      all_goals (go_wp2_with fail; go_meet; exact ⟨rfl, kq.trans hk4⟩)
    case rest =>
    obtain ⟨rfl, kc⟩ := hcut
    obtain ⟨w5, hw5⟩ : ∃ x, x = wc := ⟨_, rfl⟩
    subst hw5
    obtain ⟨h3c, h50, h51, h52, h53⟩ := HS.out _ kc
    have hRoc := HRO.out _ (HI.out _ kc).1 (HI.out _ kc).2.1
    cases hrt : rootsR zs rs with
    | false =>
      rw [hrt] at hRoc
      obtain ⟨rfl, rfl⟩ := HF.out.1 hrt
      clear hrt
      simp only [List.length_nil] at h51 HS HI ⊢
      go_wp2_with (first | (go_at_call 10; refine hRoc.mono ?_; rintro e w6 ⟨rfl, hk6⟩; obtain ⟨_, d0, d1, _, _⟩ := HS.out _ (kc.trans hk6)))
      go_ret
      exact ⟨rfl, (K3.trans kc).trans hk6⟩
    | true =>
      rw [hrt] at hRoc
      obtain ⟨rfl, hend, htri, hin⟩ := HF.out.2 hrt
      have HEnd : Hid _ := hend
      have HTri : Hid _ := htri
      have HIn : Hid _ := hin
      clear hrt hend htri hin HF HS2 HRO
      go_wp2_with (first | (go_at_call 10; refine hRoc.mono ?_; rintro e w6 ⟨rfl, hk6⟩))
      have k6 := kc.trans hk6
      clear h3c h50 h51 h52 h53 hRoc hk6
      go_loopw [6] (fun i wr => ∃ k : Nat, i = .int .i64 k ∧ k ≤ gs.length ∧ Kept W wr) (fun i _ => gs.length - (intOf i).toNat)
      case atStart => exact ⟨0, rfl, Nat.zero_le _, k6⟩
      case round =>
        obtain ⟨k, rfl, hk, kr⟩ := hrel
        obtain ⟨h3c, h50, h51, h52, h53⟩ := HS.out _ kr
        by_cases hlt : k < gs.length
        · obtain ⟨bb, off, rfl, hc⟩ := (HI.out _ kr).2.2.g.at hlt
          have ck := hc k hlt
          have q1 : (k : Int) < (gs.length : Int) := by omega
          have q0 : (0 : Int) ≤ (k : Int) := by omega
          obtain ⟨x, hx⟩ : ∃ x, hz gs k = x := ⟨_, rfl⟩
          have hxm : x ∈ rr := HIn.out x (by rw [← hx]; exact hz_mem hlt)
          rw [hx] at ck
          have hbw : bb < wr.heap.size := World.block_lt_of_cell? _ _ ck
          have HE : Hid (∀ u, Kept wr u → u.cell? ⟨bb, off + k, none⟩ = some (.int .i64 x)) := fun u hu => (hu.cell (p := ⟨bb, off + k, none⟩) hbw).trans ck
          clear hc hx
          go_wp2_with fail
          go_cut [52] from 43 to 51 (fun s52 wx => s52 = .bool false ∧ Kept wr wx)
          case first =>
            have kd : Kept wr wr.drew := (Below.refl _ wr).drew
            have H0 := HS.out _ (kr.trans kd)
            have E0 := HE.out _ kd
            go_region_held3 (fun u => (u.cell? ⟨B3, 0, none⟩ = some (.slice ao zs.length cp) ∧ u.cell? ⟨B5, 0, none⟩ = some (.int .i64 1) ∧ u.cell? ⟨B5, 1, none⟩ = some (.slice (some ⟨bb, off, none⟩) gs.length gc) ∧ u.cell? ⟨B5, 2, none⟩ = some (.slice ba bs.length bc) ∧ u.cell? ⟨B5, 3, none⟩ = some (.int .i64 0)) ∧ u.cell? ⟨bb, off + k, none⟩ = some (.int .i64 x))
              (first | exact ⟨HS.out _ (by assumption), HE.out _ (by assumption)⟩ | go_keep)
              ((first
                  | (go_at_call 12; refine (HRR.out _ (HI.out _ (kr.trans kd)).1 (HI.out _ (kr.trans kd)).2.1).mono ?_; rintro e w3 ⟨v3, rfl, hO3, hk3⟩; obtain ⟨ra3, rc3, rfl, hI3⟩ := hO3.ints; have kq : Kept wr w3 := kd.trans hk3; have kqW : Kept W w3 := kr.trans kq)
                  | (go_at_call 11; refine (within_yes _ ra3 rc3 rr x hI3 (by omega) hxm).mono ?_; rintro e w4 ⟨rfl, rfl⟩)))
            all_goals (go_wp2_with fail; go_meet; exact ⟨rfl, kq⟩)
          case rest =>
          obtain ⟨rfl, kx⟩ := hcut
          go_wp2_with fail
          go_roundw
          case rel => exact ⟨k + 1, by go_num, by omega, kr.trans kx⟩
          case measure => simp [intOf]; omega
        · obtain rfl : k = gs.length := by omega
          have HMk : Hid (stepC zs 1 gs bs 0 2000 = (2, [], rr)) := by
            have hm : markR zs 1 gs bs 0 = true := by
              have h' := HTri.out
              unfold triR at h'
              rw [Bool.and_eq_true] at h'
              exact h'.1
            have e2 : stepC zs 1 gs bs 0 2000 = (stepPh (stepL zs 2000 gs bs).1, stepL zs 2000 gs bs) := if_pos ⟨hm, rfl⟩
            rw [Hid, e2, HEnd.out]
            rfl
          have HT2 : Hid (∀ u, Kept W u → Calls Tryz.prog 13 #[.agg #[.slice ao zs.length cp], .agg (mrkV 1 ga gs.length gc ba bs.length bc 0)] u fun e w' => e = .returned (.bool true) ∧ Kept u w') := fun u hu => by
            have := HTT.out u ga ba gc bc 1 gs bs (HI.out u hu).1 (HI.out u hu).2.2 hgn
            rwa [HTri.out] at this
          have HM2 : Hid (∀ u, Kept W u → Calls Tryz.prog 15 #[.agg #[.slice ao zs.length cp], .agg (mrkV 1 ga gs.length gc ba bs.length bc 0), .int .i64 2000] u fun e w' => ∃ m, e = .returned m ∧ MkG w' u.heap.size m 2 [] rr 0 ∧ Kept u w') := fun u hu => by
            have := HMM.out u ga ba gc bc 1 gs bs (HI.out u hu).1 (HI.out u hu).2.2 hgn hbn
            rwa [HMk.out] at this
          simp only [mrkV] at HT2 HM2
          clear HTT HMM HMk HEnd HTri
          go_wp2_with fail
          have kd : Kept W wr.drew := kr.trans (Below.refl _ wr).drew
          have H0 := HS.out _ kd
          go_region_held3 (fun u => u.cell? ⟨B3, 0, none⟩ = some (.slice ao zs.length cp) ∧ u.cell? ⟨B5, 0, none⟩ = some (.int .i64 1) ∧ u.cell? ⟨B5, 1, none⟩ = some (.slice ga gs.length gc) ∧ u.cell? ⟨B5, 2, none⟩ = some (.slice ba bs.length bc) ∧ u.cell? ⟨B5, 3, none⟩ = some (.int .i64 0))
            (first | exact HS.out _ (by assumption) | go_keep)
            ((first
                | (go_at_call 13; refine (HT2.out _ kd).mono ?_; rintro e w3 ⟨rfl, hk3⟩; have kq3 : Kept W w3 := kd.trans hk3)
                | (go_at_call 15; refine (HM2.out _ kq3).mono ?_; rintro e w4 ⟨m4, rfl, hM4, hk4⟩; obtain ⟨ga4, ba4, gc4, bc4, rfl, _, hb4, _⟩ := mkG_two hM4; have kq4 : Kept W w4 := kq3.trans hk4)
                | (go_at_call 12; refine (HRR.out _ (HI.out _ kq4).1 (HI.out _ kq4).2.1).mono ?_; rintro e w5 ⟨v5, rfl, hO5, hk5⟩; obtain ⟨ra5, rc5, rfl, hI5⟩ := hO5.ints; have kq5 : Kept W w5 := kq4.trans hk5)
                | (go_at_call 14; refine (sameInts_ok _ ba4 ra5 bc4 rc5 rr (hb4.kept hk5) hI5 (by omega)).mono ?_; rintro e w6 ⟨rfl, hk6⟩; have kq6 : Kept W w6 := kq5.trans hk6)))
          all_goals (go_wp2_with fail; go_ret; exact ⟨rfl, (K3.trans kq5).trans hk6⟩)

set_option maxRecDepth 100000 in
theorem lifted (os : Os) (started : os.Started) (H : Type) (enc : TypeId × Value → H) :
    ReturnsInHanded {} Tryz.checked os 3 .any (Rows.fnStartedSpec.pre6 enc Tryz.prog Tryz.f3 Rows.fnStartedRow.domain false) (Rows.fnStartedSpec.post enc Tryz.prog Tryz.f3 false true false false) := by
  refine returnsInHanded_of_change (C := Tryz.checked) own started (by kernel_rfl) Tryz.func3
    (ChangeSpec.witness6 (enc := enc) (C := Tryz.checked) false ⟨#[], #[.slice none 0 0], []⟩ 8 (by kernel_rfl) (by kernel_rfl) (by kernel_rfl) (by kernel_rfl)) ?_
  intro W base args ds gs before hval0 hW hcnd _
  have hval : ∀ (j : Nat) t v, Tryz.f3.params[j]? = some t → args[j]? = some v → Value.okWide Tryz.prog W .any base t v := hval0
  have hW' := hW
  obtain ⟨p, q, hA0, hV, rfl, hfz, hnd⟩ := hW
  have hA : DataW.TrodAll enc Tryz.prog W 0 (fun _ => true) true Tryz.f3.params.toList args.toList ds p := hA0
  rw [Tryz.params3] at hA hval
  obtain ⟨v0, vs0, d0, ds0, p0, q0, hargs, rfl, rfl, h0, r0⟩ := trodAll_cons hA
  obtain ⟨rfl, rfl, rfl⟩ := trodAll_nil r0
  obtain rfl : args = #[v0] := by cases args; simp_all
  obtain ⟨rfl, rfl⟩ := trodVars_none hV
  obtain ⟨a0, len0, cap0, rfl⟩ := okWide_slice Tryz.underlying22 (hval 0 22 v0 rfl rfl)
  have k0 := h0
  have lt0 : ∀ x ∈ p0, x.block < W.heap.size := by obtain ⟨m, hm⟩ := k0; exact DataW.trod_lt m _ _ _ hm
  obtain ⟨z0, w0⟩ : ∃ zs, IsRow .u8 W a0 len0 cap0 zs := by
    obtain ⟨fuel, hf⟩ := h0
    rcases open_ints Tryz.underlying22 Tryz.underlying5 (by kernel_rfl) hf with ⟨hcs, _⟩ | ⟨x, l, c, zs, hcs, _, hl, hm, hz, _, hcell, hwz⟩
    · simp [Value.cells] at hcs
      obtain ⟨rfl, rfl, rfl⟩ := hcs
      exact ⟨[], .inl ⟨rfl, rfl, rfl, rfl⟩⟩
    · simp [Value.cells] at hcs
      obtain ⟨rfl, rfl, rfl⟩ := hcs
      exact ⟨zs, .inr ⟨_, rfl, hl, hm, by simpa using hz, hcell, hwz⟩⟩
  clear hA0 hval0
  refine (walk a0 len0 cap0 z0 W w0).mono fun e W' ⟨he, bel⟩ => ?_
  subst he
  exact ⟨_, rfl, _, _, _, [], _, [], hW', trodAll_mk1 (shut_bool Tryz.underlying4 _), (trodAll_cons_mk (Below.trod laidOut (by kernel_rfl) (of_decide_eq_true (by kernel_rfl)) k0 bel lt0) trodAll_mk0), rfl, bel.frame _, fun h => by cases h⟩

theorem over : Rows.fnStartedRow.holds Tryz.pinned (OpenSpec.ofChange Rows.fnStartedSpec) :=
  OpenClaim.holds_of_wide 3 Tryz.f3 rfl rfl rfl rfl rfl rfl rfl ⟨rfl, rfl, rfl, rfl, rfl⟩ rfl rfl rfl rfl rfl (by kernel_rfl) Tryz.func3 (by kernel_rfl)
    (of_decide_eq_true (by kernel_rfl)) (by unfold Func.isWrapper; first | (rw [if_pos (by decide +kernel)]; kernel_rfl) | (rw [if_neg (by decide +kernel)]; exact ⟨rfl, rfl⟩))
    (fun os started H enc _ => lifted os started H enc)

theorem proved : Rows.FnStartedSaid := over
#print axioms proved
end Go.Proofs.YtpljjeknphnnpaaGreat.fnStarted
