/-
  The law FnTrees is proved: for every slice of bytes, the tree that is drawn of it is as great as its kids together and one more, and as deep as the deepest of them and one more; and of another drawn tree impl.Size and impl.Deep tell what their models tell.
-/
import Derived.Test.YtdcjfeihcafndaaRows
import Derived.WalkKit
import Derived.ProofKit
import Derived.OpenShut
import Derived.ShutString
import Derived.ChangeOld
import Derived.Below
import Derived.Test.YtdcjfeihcafndaaTreD
import Derived.Test.YtdcjfeihcafndaaNodX
import Derived.Test.YtdcjfeihcafndaaSeq
namespace Go.Proofs.Ytdcjfeihcafndaa.fnTrees
open Go.ChangeShapes Go.WideShapes Go.ChangeAt Go.RowKit
open Go.ChangeMaps (open_string shut_string)
set_option linter.unusedVariables false

theorem own : ownKnob Try.prog.godebug = none := by kernel_rfl
theorem laidOut : laidOutB Try.prog = true := by kernel_rfl

/-- WHAT THE WALK IS TOLD OF A SLICE OF INTEGERS THAT CAME IN: it is nil; or it leads to a row of 'cap' cells, the numbers 'zs' (the first 'len' are its elements, the rest its spare room), each fitting its kind. -/
def IsRow (k : IntKind) (w : World) (a : Option Addr) (len cap : Nat) (zs : List Int) : Prop :=
  (a = none ∧ len = 0 ∧ cap = 0 ∧ zs = []) ∨
  ∃ x, a = some x ∧ len ≤ cap ∧ cap ≤ maxLen ∧ zs.length = cap ∧ (∀ i, i < zs.length → w.cell? (x.add i) = some (.int k (zs.getD i 0))) ∧ ∀ n ∈ zs, (Lit.int k n).wf = true

set_option maxRecDepth 100000 in
set_option maxHeartbeats 16000000 in

theorem walk (a0 : Option Addr) (len0 cap0 : Nat) (z0 : List Int) (w : World) (w0 : IsRow .u8 w a0 len0 cap0 z0) :
    Calls Try.prog 3 #[.slice a0 len0 cap0] w fun e w' => e = .returned (.bool true) ∧ Below w.heap.size w w' := by
  have hs := src_of w0
  clear w0
  have hlen := hs.1
  by_cases hbig : (1048576 : Int) < (len0 : Int)
  · go_enter Try.func3, Try.ntmps3
    go_wp2_with (first | (go_at_call 4; go_in))
    go_ret
    exact ⟨rfl, Below.refl _ _⟩
  · have hD := DrawSize_ok a0 len0 cap0 _ _ hs
    have HSrc : Hid (Src w.heap.size w a0 len0 (fun i => z0.getD i 0)) := hs
    clear hs
    go_enter Try.func3, Try.ntmps3
    go_wp2_with (first | (go_at_call 4; go_in))
    refine hD.mono ?_
    rintro e w1 ⟨t, v, rfl, hv, hz, hK1⟩
    clear hD
    have HN : Hid (NdV w1 1 t v) := hv
    cases t with
    | mk op s n ks =>
    rw [NdV] at hv
    obtain ⟨ao, cap, rfl, hml, hks⟩ := hv
    simp only [Nd.size] at hz
    have hll := len_sizes ks
    have b0 := Cells.new w1 26 #[.int .i64 op, .string s, .int .i64 n, .slice ao ks.length cap]
    have k0 : Kept w1 (w1.alloc (.cells #[.int .i64 op, .string s, .int .i64 n, .slice ao ks.length cap] 26)) := Kept.alloc (Below.refl _ _) _
    have HKS : Hid (ks = [] ∨ ∃ b off, ao = some ⟨b, off, none⟩ ∧ 1 ≤ b ∧ NdsV w1 1 b off ks) := hks
    have HK1 : Hid (Kept w w1) := hK1
    clear hks hml hK1
    go_wp2_with fail
    obtain ⟨B, hB⟩ : ∃ B, w1.heap.size = B := ⟨_, rfl⟩
    obtain ⟨W, hW⟩ : ∃ W, w1.alloc (.cells #[.int .i64 op, .string s, .int .i64 n, .slice ao ks.length cap] 26) = W := ⟨_, rfl⟩
    rw [hB, hW] at b0
    rw [hW] at k0
    simp only [hB, hW]
    have Hk0 : Hid (Kept w1 W) := k0
    clear hB hW k0
    go_loopw [4, 5, 6] (fun sv dv iv wr => ∃ (k : Nat), iv = .int .i64 k ∧ k ≤ ks.length ∧ sv = .int .i64 ((1 + sizesN (ks.take k) : Nat) : Int) ∧ dv = .int .i64 ((deepsN (ks.take k) : Nat) : Int) ∧ Hid (Kept W wr)) (fun _ _ i _ => ks.length - (intOf i).toNat)
    case atStart => exact ⟨0, rfl, Nat.zero_le _, by simp [sizesN], by simp [deepsN], Below.refl _ _⟩
    case round =>
      obtain ⟨k, rfl, hk, rfl, rfl, hK⟩ := hrel
      have c3 := (b0.kept hK.out).cell 3
      by_cases hlt : k < ks.length
      · obtain ⟨x, hx⟩ : ∃ x, ks[k]? = some x := ⟨ks[k], List.getElem?_eq_getElem hlt⟩
        have q1 : (k : Int) < (ks.length : Int) := by omega
        have hsz := size_mem hx
        have q2 : (k : Int) + 1 ≤ 9223372036854775807 := by omega
        have hst := deeps_take hx
        have hss := sizes_take hx
        have hdl := x.deep_le
        have hdk := deeps_le (ks.take k)
        have hdm := sizes_le (ks := ks) k
        have hsl := sizes_le (ks := ks) (k + 1)
        obtain ⟨b, off, rfl, hbb, hn⟩ : ∃ b off, ao = some ⟨b, off, none⟩ ∧ 1 ≤ b ∧ NdsV w1 1 b off ks := by
          rcases HKS.out with h | h
          · rw [h] at hlt; simp at hlt
          · exact h
        obtain ⟨d0, d1, d2, d3, g0, g1, g2, g3, hv⟩ := (NdsV.turn (Turn.kept (Hk0.out.trans hK.out)) _ _ _ hbb hn).at hx
        have HF : Hid (∀ u, Kept wr u → u.cell? ⟨B, 3, none⟩ = some (.slice (some ⟨b, off, none⟩) ks.length cap) ∧ u.cell? ⟨b, off + k * 4, none⟩ = some d0 ∧ u.cell? ⟨b, off + k * 4 + 1, none⟩ = some d1 ∧ u.cell? ⟨b, off + k * 4 + 2, none⟩ = some d2 ∧ u.cell? ⟨b, off + k * 4 + 3, none⟩ = some d3) := fun u hu => ⟨(b0.kept (hK.out.trans hu)).cell 3, kept_cell hu g0, kept_cell hu g1, kept_cell hu g2, kept_cell hu g3⟩
        have HSz : Hid (∀ u, Kept wr u → Calls Try.prog 6 #[.agg #[d0, d1, d2, d3]] u fun e w' => e = .returned (.int .i64 (x.size : Nat)) ∧ Kept u w') := fun u hu => impl_Size_ok x u 1 _ (hv.kept hu) (by omega) (by omega)
        have HDp : Hid (∀ u, Kept wr u → Calls Try.prog 7 #[.agg #[d0, d1, d2, d3]] u fun e w' => e = .returned (.int .i64 (x.deep : Nat)) ∧ Kept u w') := fun u hu => impl_Deep_ok x u 1 _ (hv.kept hu) (by omega) (by omega)
        have HST : Hid _ := hst
        have HSS : Hid _ := hss
        obtain ⟨A0, hA0⟩ : ∃ z : Int, ((1 + sizesN (ks.take k) : Nat) : Int) = z := ⟨_, rfl⟩
        obtain ⟨A1, hA1⟩ : ∃ z : Int, ((x.size : Nat) : Int) = z := ⟨_, rfl⟩
        obtain ⟨A2, hA2⟩ : ∃ z : Int, ((deepsN (ks.take k) : Nat) : Int) = z := ⟨_, rfl⟩
        obtain ⟨A3, hA3⟩ : ∃ z : Int, ((x.deep : Nat) : Int) = z := ⟨_, rfl⟩
        have i1 : A0 + A1 ≤ 9223372036854775807 := by omega
        have i2 : -9223372036854775808 ≤ A0 + A1 := by omega
        have HA0 : Hid (A0 + A1 = ((1 + sizesN (ks.take (k + 1)) : Nat) : Int)) := by rw [Hid, hss]; omega
        have HA2 : Hid (max A2 A3 = ((deepsN (ks.take (k + 1)) : Nat) : Int)) := by rw [Hid, hst]; omega
        simp only [hA0, hA2]
        rw [hA1] at HSz
        rw [hA3] at HDp
        clear hv hn hst hss hsz hdl hdk hdm hsl hA0 hA1 hA2 hA3
        by_cases hm : A2 < A3
        · have HM : Hid (max A2 A3 = A3) := by rw [Hid]; omega
          go_wp2_with (first
            | (have _tk := ky; go_at_call 7; refine (HDp.out _ ky).mono ?_; rintro e wz ⟨rfl, hkz⟩; have kz := ky.trans hkz)
            | (have _tk := kx; go_at_call 7; refine (HDp.out _ kx).mono ?_; rintro e wy ⟨rfl, hky⟩; have ky := kx.trans hky; obtain ⟨c3, g0, g1, g2, g3⟩ := HF.out _ ky)
            | (go_at_call 6; refine (HSz.out _ (Below.refl _ _)).mono ?_; rintro e wx ⟨rfl, kx⟩; obtain ⟨c3, g0, g1, g2, g3⟩ := HF.out _ kx))
          refine ⟨⟨k + 1, by go_num, by omega, by rw [HA0.out], by rw [← HA2.out, HM.out], hK.out.trans kz⟩, by simp [intOf]; omega⟩
        · have HM : Hid (max A2 A3 = A2) := by rw [Hid]; omega
          have q5 : decide (A2 < A3) = false := decide_eq_false hm
          clear hm
          go_wp2_with (first
            | (have _tk := kx; go_at_call 7; refine (HDp.out _ kx).mono ?_; rintro e wy ⟨rfl, hky⟩; have ky := kx.trans hky; obtain ⟨c3, g0, g1, g2, g3⟩ := HF.out _ ky)
            | (go_at_call 6; refine (HSz.out _ (Below.refl _ _)).mono ?_; rintro e wx ⟨rfl, kx⟩; obtain ⟨c3, g0, g1, g2, g3⟩ := HF.out _ kx))
          refine ⟨⟨k + 1, by go_num, by omega, by rw [HA0.out], by rw [← HA2.out, HM.out], hK.out.trans ky⟩, by simp [intOf]; omega⟩
      · have hkk : k = ks.length := by omega
        subst hkk
        simp only [List.take_length]
        have q1 : ¬ ((ks.length : Nat) : Int) < (ks.length : Int) := by omega
        have kW : Kept w wr := (HK1.out.trans Hk0.out).trans hK.out
        have hD2 := DrawDeep_ok a0 len0 cap0 _ _ (HSrc.out.below kW)
        go_wp2_with fail
        refine hD2.mono ?_
        rintro e w3 ⟨t3, v3, rfl, hv3, hz3, hK3⟩
        obtain ⟨op3, s3, n3, ao3, l3, cap3, rfl⟩ := hv3.four
        have b3 := Cells.new w3 26 #[.int .i64 op3, .string s3, .int .i64 n3, .slice ao3 l3 cap3]
        have k3 : Kept w3 (w3.alloc (.cells #[.int .i64 op3, .string s3, .int .i64 n3, .slice ao3 l3 cap3] 26)) := Kept.alloc (Below.refl _ _) _
        clear hD2
        go_wp2_with fail
        obtain ⟨B3, hB3⟩ : ∃ B, w3.heap.size = B := ⟨_, rfl⟩
        obtain ⟨V, hV⟩ : ∃ W, w3.alloc (.cells #[.int .i64 op3, .string s3, .int .i64 n3, .slice ao3 l3 cap3] 26) = W := ⟨_, rfl⟩
        rw [hB3, hV] at b3
        rw [hV] at k3
        simp only [hB3, hV]
        have kd : Kept V V.drew := (Below.refl _ V).drew
        have kB : Kept W V := (hK.out.trans hK3).trans k3
        have x0 : ∀ u, Kept V.drew u → u.cell? ⟨B, 0, none⟩ = some (.int .i64 op) := fun u hu => (b0.kept (kB.trans (kd.trans hu))).cell 0
        have x1 : ∀ u, Kept V.drew u → u.cell? ⟨B, 1, none⟩ = some (.string s) := fun u hu => (b0.kept (kB.trans (kd.trans hu))).cell 1
        have x2 : ∀ u, Kept V.drew u → u.cell? ⟨B, 2, none⟩ = some (.int .i64 n) := fun u hu => (b0.kept (kB.trans (kd.trans hu))).cell 2
        have x3 : ∀ u, Kept V.drew u → u.cell? ⟨B, 3, none⟩ = some (.slice ao ks.length cap) := fun u hu => (b0.kept (kB.trans (kd.trans hu))).cell 3
        have y0 : ∀ u, Kept V.drew u → u.cell? ⟨B3, 0, none⟩ = some (.int .i64 op3) := fun u hu => (b3.kept (kd.trans hu)).cell 0
        have y1 : ∀ u, Kept V.drew u → u.cell? ⟨B3, 1, none⟩ = some (.string s3) := fun u hu => (b3.kept (kd.trans hu)).cell 1
        have y2 : ∀ u, Kept V.drew u → u.cell? ⟨B3, 2, none⟩ = some (.int .i64 n3) := fun u hu => (b3.kept (kd.trans hu)).cell 2
        have y3 : ∀ u, Kept V.drew u → u.cell? ⟨B3, 3, none⟩ = some (.slice ao3 l3 cap3) := fun u hu => (b3.kept (kd.trans hu)).cell 3
        have hdd := deeps_le ks
        have NA : ∀ u, Kept V.drew u → NdV u 1 (.mk op s n ks) (.agg #[.int .i64 op, .string s, .int .i64 n, .slice ao ks.length cap]) := fun u hu => HN.out.kept (Hk0.out.trans (kB.trans (kd.trans hu)))
        have NB : ∀ u, Kept V.drew u → NdV u 1 t3 (.agg #[.int .i64 op3, .string s3, .int .i64 n3, .slice ao3 l3 cap3]) := fun u hu => hv3.kept (k3.trans (kd.trans hu))
        have C1 : Hid (∀ u, Kept V.drew u → Calls Try.prog 6 #[.agg #[.int .i64 op, .string s, .int .i64 n, .slice ao ks.length cap]] u fun e w' => e = .returned (.int .i64 (1 + ((sizesN ks : Nat) : Int))) ∧ Kept u w') := fun u hu => by
          have h := impl_Size_ok (.mk op s n ks) u 1 _ (NA u hu) (by omega) (by simp only [Nd.size]; omega)
          rw [show (((Nd.mk op s n ks).size : Nat) : Int) = 1 + ((sizesN ks : Nat) : Int) by simp [Nd.size]] at h
          exact h
        have C2 : Hid (∀ u, Kept V.drew u → Calls Try.prog 7 #[.agg #[.int .i64 op, .string s, .int .i64 n, .slice ao ks.length cap]] u fun e w' => e = .returned (.int .i64 ((deepsN ks : Nat) + 1 : Int)) ∧ Kept u w') := fun u hu => impl_Deep_ok (.mk op s n ks) u 1 _ (NA u hu) (by omega) (by simp only [Nd.size]; omega)
        have C3 : Hid (∀ u, Kept V.drew u → Calls Try.prog 7 #[.agg #[.int .i64 op3, .string s3, .int .i64 n3, .slice ao3 l3 cap3]] u fun e w' => e = .returned (.int .i64 ((t3.deep : Nat) : Int)) ∧ Kept u w') := fun u hu => impl_Deep_ok t3 u 1 _ (NB u hu) (by omega) (by omega)
        have C4 : Hid (∀ u, Kept V.drew u → Calls Try.prog 9 #[.agg #[.int .i64 op3, .string s3, .int .i64 n3, .slice ao3 l3 cap3]] u fun e w' => e = .returned (.int .i64 ((t3.deep : Nat) : Int)) ∧ Kept u w') := fun u hu => spec_Deep_ok _ t3 (Nat.le_refl _) u 1 _ (NB u hu) (by omega)
        have C5 : Hid (∀ u, Kept V.drew u → Calls Try.prog 6 #[.agg #[.int .i64 op3, .string s3, .int .i64 n3, .slice ao3 l3 cap3]] u fun e w' => e = .returned (.int .i64 ((t3.size : Nat) : Int)) ∧ Kept u w') := fun u hu => impl_Size_ok t3 u 1 _ (NB u hu) (by omega) (by omega)
        have C6 : Hid (∀ u, Kept V.drew u → Calls Try.prog 10 #[.agg #[.int .i64 op3, .string s3, .int .i64 n3, .slice ao3 l3 cap3]] u fun e w' => e = .returned (.int .i64 ((t3.size : Nat) : Int)) ∧ Kept u w') := fun u hu => spec_Size_ok _ t3 (Nat.le_refl _) u 1 _ (NB u hu) (by omega)
        have KW : Hid (Kept w V) := (kW.trans hK3).trans k3
        obtain ⟨A0, hA0⟩ : ∃ z : Int, 1 + ((sizesN ks : Nat) : Int) = z := ⟨_, rfl⟩
        obtain ⟨A2, hA2⟩ : ∃ z : Int, ((deepsN ks : Nat) : Int) = z := ⟨_, rfl⟩
        obtain ⟨A3, hA3⟩ : ∃ z : Int, ((t3.deep : Nat) : Int) = z := ⟨_, rfl⟩
        obtain ⟨A4, hA4⟩ : ∃ z : Int, ((t3.size : Nat) : Int) = z := ⟨_, rfl⟩
        have i1 : IntKind.i64.wrap (A2 + 1) = A2 + 1 := IntWalk.i64_in _ ⟨by omega, by omega⟩
        rw [hA0] at C1
        rw [hA2] at C2
        rw [hA3] at C3 C4
        rw [hA4] at C5 C6
        simp only [hA0, hA2]
        clear NA NB hA0 hA2 hA3 hA4 hv3 hz3 hK3 k3 kB b3 hV hB3 kW
        refine wp_region_seqL (by kernel_rfl) (by kernel_rfl) ?_
        repeat (first
          | (refine SeqL.skip (by rfl) ?_; simp only [Act.put, List.setIfInBounds_toArray, List.set_cons_zero, List.set_cons_succ])
          | (refine SeqL.pure ?_ (by rfl) ?_ ?_; rotate_left; (focus (intro u hu; have x0' := x0 u hu; have x1' := x1 u hu; have x2' := x2 u hu; have x3' := x3 u hu; have y0' := y0 u hu; have y1' := y1 u hu; have y2' := y2 u hu; have y3' := y3 u hu; go_simp; first | done | exact rfl)); simp only [Act.put, List.setIfInBounds_toArray, List.set_cons_zero, List.set_cons_succ])
          | (refine SeqL.call _ _ _ (by rfl) ?_ C1.out ?_; (focus (intro u; go_simp; done)); clear C1; simp only [Act.put, List.setIfInBounds_toArray, List.set_cons_zero, List.set_cons_succ])
          | (refine SeqL.call _ _ _ (by rfl) ?_ C2.out ?_; (focus (intro u; go_simp; done)); clear C2; simp only [Act.put, List.setIfInBounds_toArray, List.set_cons_zero, List.set_cons_succ])
          | (refine SeqL.call _ _ _ (by rfl) ?_ C3.out ?_; (focus (intro u; go_simp; done)); clear C3; simp only [Act.put, List.setIfInBounds_toArray, List.set_cons_zero, List.set_cons_succ])
          | (refine SeqL.call _ _ _ (by rfl) ?_ C4.out ?_; (focus (intro u; go_simp; done)); clear C4; simp only [Act.put, List.setIfInBounds_toArray, List.set_cons_zero, List.set_cons_succ])
          | (refine SeqL.call _ _ _ (by rfl) ?_ C5.out ?_; (focus (intro u; go_simp; done)); clear C5; simp only [Act.put, List.setIfInBounds_toArray, List.set_cons_zero, List.set_cons_succ])
          | (refine SeqL.call _ _ _ (by rfl) ?_ C6.out ?_; (focus (intro u; go_simp; done)); clear C6; simp only [Act.put, List.setIfInBounds_toArray, List.set_cons_zero, List.set_cons_succ]))
        refine SeqL.nil ?_
        intro u9 hu9
        go_wp2
        go_ret
        exact ⟨by simp, KW.out.trans (kd.trans hu9)⟩

set_option maxRecDepth 100000 in
theorem lifted (os : Os) (started : os.Started) (H : Type) (enc : TypeId × Value → H) :
    ReturnsInHanded {} Try.checked os 3 .any (Rows.fnTreesSpec.pre6 enc Try.prog Try.f3 Rows.fnTreesRow.domain false) (Rows.fnTreesSpec.post enc Try.prog Try.f3 false true false false) := by
  refine returnsInHanded_of_change (C := Try.checked) own started (by kernel_rfl) Try.func3
    (ChangeSpec.witness6 (enc := enc) (C := Try.checked) false ⟨#[], #[.slice none 0 0], []⟩ 8 (by kernel_rfl) (by kernel_rfl) (by kernel_rfl) (by kernel_rfl)) ?_
  intro W base args ds gs before hval0 hW hcnd _
  have hval : ∀ (j : Nat) t v, Try.f3.params[j]? = some t → args[j]? = some v → Value.okWide Try.prog W .any base t v := hval0
  have hW' := hW
  obtain ⟨p, q, hA0, hV, rfl, hfz, hnd⟩ := hW
  have hA : DataW.TrodAll enc Try.prog W 0 (fun _ => true) true Try.f3.params.toList args.toList ds p := hA0
  rw [Try.params3] at hA hval
  obtain ⟨v0, vs0, d0, ds0, p0, q0, hargs, rfl, rfl, h0, r0⟩ := trodAll_cons hA
  obtain ⟨rfl, rfl, rfl⟩ := trodAll_nil r0
  obtain rfl : args = #[v0] := by cases args; simp_all
  obtain ⟨rfl, rfl⟩ := trodVars_none hV
  obtain ⟨a0, len0, cap0, rfl⟩ := okWide_slice Try.underlying22 (hval 0 22 v0 rfl rfl)
  have k0 := h0
  have lt0 : ∀ x ∈ p0, x.block < W.heap.size := by obtain ⟨m, hm⟩ := k0; exact DataW.trod_lt m _ _ _ hm
  obtain ⟨z0, w0⟩ : ∃ zs, IsRow .u8 W a0 len0 cap0 zs := by
    obtain ⟨fuel, hf⟩ := h0
    rcases open_ints Try.underlying22 Try.underlying5 (by kernel_rfl) hf with ⟨hcs, _⟩ | ⟨x, l, c, zs, hcs, _, hl, hm, hz, _, hcell, hwz⟩
    · simp [Value.cells] at hcs
      obtain ⟨rfl, rfl, rfl⟩ := hcs
      exact ⟨[], .inl ⟨rfl, rfl, rfl, rfl⟩⟩
    · simp [Value.cells] at hcs
      obtain ⟨rfl, rfl, rfl⟩ := hcs
      exact ⟨zs, .inr ⟨_, rfl, hl, hm, by simpa using hz, hcell, hwz⟩⟩
  clear hA0 hval0
  refine (walk a0 len0 cap0 z0 W w0).mono fun e W' ⟨he, bel⟩ => ?_
  subst he
  exact ⟨_, rfl, _, _, _, [], _, [], hW', trodAll_mk1 (shut_bool Try.underlying4 _), (trodAll_cons_mk (Below.trod laidOut (by kernel_rfl) (of_decide_eq_true (by kernel_rfl)) k0 bel lt0) trodAll_mk0), rfl, bel.frame _, fun h => by cases h⟩

theorem over : Rows.fnTreesRow.holds Try.pinned (OpenSpec.ofChange Rows.fnTreesSpec) :=
  OpenClaim.holds_of_wide 3 Try.f3 rfl rfl rfl rfl rfl rfl rfl ⟨rfl, rfl, rfl, rfl, rfl⟩ rfl rfl rfl rfl rfl (by kernel_rfl) Try.func3 (by kernel_rfl)
    (of_decide_eq_true (by kernel_rfl)) (by unfold Func.isWrapper; first | (rw [if_pos (by decide +kernel)]; kernel_rfl) | (rw [if_neg (by decide +kernel)]; exact ⟨rfl, rfl⟩))
    (fun os started H enc _ => lifted os started H enc)

theorem proved : Rows.FnTreesSaid := over
#print axioms proved
end Go.Proofs.Ytdcjfeihcafndaa.fnTrees
