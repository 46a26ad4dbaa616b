/-
  The law FnPictures is proved (a tied card: three tables of the library lie as its text lays them): for every slice of bytes, what is seen of the heap that is drawn of it is seen as the model has it, the same of a heap that is alike (whichever of the two is first), and of no other one; a picture is empty just where the roots are not right, and has a line for each block that is reached, and one more; nothing that was there is written.
-/
import Derived.Test.YtgnpllpinfhccaaGreatDoorRows
import Derived.Test.YtgnpllpinfhccaaGreatDoorCards
import Derived.Test.YtgnpllpinfhccaaGreatDoorTie
import Derived.ChangeVars
import Derived.Stop.Joined
import Derived.SevenTiedAt
import Derived.Deep.RegionWith
import Derived.Deep.CutRange
import Derived.Test.YtgnpllpinfhccaaGreatDoorGrpA
import Derived.Test.YtgnpllpinfhccaaGreatDoorGrpX
import Derived.Test.YtgnpllpinfhccaaGreatDoorGrpI
import Derived.Test.YtgnpllpinfhccaaGreatDoorGrpT
import Derived.Test.YtgnpllpinfhccaaGreatDoorGrpS
namespace Go.Proofs.YtgnpllpinfhccaaGreatDoor.fnPictures
open Go.ChangeShapes Go.WideShapes Go.ChangeAt Go.RowKit
set_option linter.unusedVariables false

theorem own : ownKnob Tryz.prog.godebug = none := by kernel_rfl

theorem own_ints7 {W : World} {base c : Nat} {ao : Option Addr} {l : List Int} (h : OwnL W base (.slice ao l.length c) l) : Ints W ao l := by
  obtain ⟨_, _, e, hi⟩ := h.ints
  cases e
  exact hi
/-- How many of the first k bytes end a line. -/
def endsN (t : ByteArray) : Nat → Nat
  | 0 => 0
  | k + 1 => if byteN t k = 10 then endsN t k + 1 else endsN t k
theorem endsN_le (t : ByteArray) : ∀ k, endsN t k ≤ k
  | 0 => Nat.le_refl _
  | k + 1 => by
    have := endsN_le t k
    unfold endsN
    split <;> omega
theorem endsN_is {xs : List Int} (hb : Byt xs) : ∀ k, k ≤ xs.length → endsN (strOfNums xs) k = (xs.take k).count 10
  | 0, _ => by simp [endsN]
  | k + 1, hk => by
    have hlt : k < xs.length := by omega
    have e : xs[k]? = some (xs.getD k 0) := by rw [List.getD_eq_getElem?_getD, List.getElem?_eq_getElem hlt]; rfl
    have hm : xs.getD k 0 ∈ xs := List.mem_of_getElem? e
    unfold endsN
    rw [endsN_is hb k (by omega), byteN_nums hlt (hb _ hm), List.take_add_one, e, List.count_append]
    by_cases h : xs.getD k 0 = 10
    · rw [if_pos h, h]; rfl
    · rw [if_neg h]
      have : List.count 10 (some (xs.getD k 0)).toList = 0 := List.count_eq_zero.2 (by simpa using fun e => h e.symm)
      omega
theorem str_size (xs : List Int) : (strOfNums xs).size = xs.length := by
  show (strOfNums xs).data.size = _
  simp [strOfNums]
theorem ends_pic (zs rs : List Int) (h : rootsR zs rs = true) : endsN (strOfNums (picL zs rs)) (strOfNums (picL zs rs)).size = (reachL zs rs).length + 1 := by
  rw [str_size, endsN_is (picL_byt zs rs) _ (Nat.le_refl _), List.take_length, picL_count h, reachL_len h]
set_option maxRecDepth 100000 in
set_option maxHeartbeats 64000000 in
theorem walk (w : World) (hT : Tab w) (a0 : Option Addr) (len0 cap0 : Nat) (z0 : List Int) (w0 : (a0 = none ∧ len0 = 0 ∧ cap0 = 0 ∧ z0 = []) ∨ ∃ x, a0 = some x ∧ len0 ≤ cap0 ∧ cap0 ≤ maxLen ∧ z0.length = cap0 ∧ (∀ i, i < z0.length → w.cell? (x.add i) = some (.int .u8 (z0.getD i 0))) ∧ ∀ n ∈ z0, (Lit.int .u8 n).wf = true) :
    Calls Tryz.prog 3 #[.slice a0 len0 cap0] w fun e w' => e = .returned (.bool true) ∧ Kept w w' := by
  obtain ⟨i0, hi, hz0, hz1, hz2⟩ := info_parts infoI
  have hs := src_of w0
  clear w0
  have hlen := hs.1
  by_cases hbig : (1048576 : Int) < (len0 : Int)
  · go_enter Tryz.func3, Tryz.ntmps3
    go_wp2_with (first | (go_at_call 6; go_in))
    go_ret
    exact ⟨rfl, Below.refl _ _⟩
  · have hD := DrawSameSight_ok a0 len0 cap0 _ _ hs
    go_enter Tryz.func3, Tryz.ntmps3
    go_wp2_with (first | (go_at_call 6; go_in))
    refine hD.mono ?_
    rintro e w1 ⟨v, zs, rv, rs, v2, ys, rv2, qs, rfl, hO, hl, hR, hrl, hO2, hl2, hR2, hrl2, hK1⟩
    obtain ⟨ao, cp, rfl, hI, _, hcp⟩ := hO
    obtain ⟨ro, rp, rfl, hIr, _, hrp⟩ := hR
    obtain ⟨ya, yc, rfl, hY, _, _⟩ := hO2
    obtain ⟨qa, qc, rfl, hQ, _, _⟩ := hR2
    have k3 : Kept w1 ((w1.alloc (.cells #[.slice ao zs.length cp] 26)).alloc (.cells #[.slice ya ys.length yc] 26)) := (Kept.alloc (Below.refl _ _) _).alloc _
    have x3 := (Cells.new w1 26 #[.slice ao zs.length cp]).alloc (.cells #[.slice ya ys.length yc] 26)
    have x5 := Cells.new (w1.alloc (.cells #[.slice ao zs.length cp] 26)) 26 #[.slice ya ys.length yc]
    simp only [World.size_alloc] at x5
    have hSi := fun (u : World) (hu : Kept w1 u) => impl_SameSight_ok u ao ya ro qa cp yc rp qc zs rs ys qs (hI.kept hu) (hY.kept hu) (hIr.kept hu) (hQ.kept hu) (by omega) (by omega) (by omega) (by omega) (hT.kept (hK1.trans hu))
    have hSs := fun (u : World) (hu : Kept w1 u) => spec_SameSight_ok u ao ya ro qa cp yc rp qc zs rs ys qs (hI.kept hu) (hY.kept hu) (hIr.kept hu) (hQ.kept hu) (by omega) (by omega) (by omega) (by omega)
    have hSj := fun (u : World) (hu : Kept w1 u) => impl_SameSight_ok u ya ao qa ro yc cp qc rp ys qs zs rs (hY.kept hu) (hI.kept hu) (hQ.kept hu) (hIr.kept hu) (by omega) (by omega) (by omega) (by omega) (hT.kept (hK1.trans hu))
    rw [sight_comm ys qs zs rs] at hSj
    obtain ⟨b, hb⟩ : ∃ x, sightR zs rs ys qs = x := ⟨_, rfl⟩
    simp only [hb] at hSi hSs hSj
    have HSi : Hid _ := hSi
    have HSs : Hid _ := hSs
    have HSj : Hid _ := hSj
    have HK1 : Hid (Kept w w1) := hK1
    clear hb hSi hSs hSj hD hI hIr hY hQ hK1 hl hl2 hrl hrl2 hcp hrp
    go_upto_region 4 with (fail)
    obtain ⟨W3, hW3⟩ : ∃ x, (w1.alloc (.cells #[.slice ao zs.length cp] 26)).alloc (.cells #[.slice ya ys.length yc] 26) = x := ⟨_, rfl⟩
    rw [hW3] at k3 x3 x5
    rw [hW3]
    clear hW3
    have HC3 : Hid (∀ u, Kept W3 u → u.cell? ⟨w1.heap.size, 0, none⟩ = some (.slice ao zs.length cp) ∧ u.cell? ⟨w1.heap.size + 1, 0, none⟩ = some (.slice ya ys.length yc)) := fun u hu => ⟨(x3.kept hu).cell 0, (x5.kept hu).cell 0⟩
    obtain ⟨c3, c5⟩ := HC3.out _ (Below.refl _ W3)
    have hne : (b != b) = false := by simp
    obtain ⟨G, hG⟩ : ∃ G, w1.heap.size = G := ⟨_, rfl⟩
    rw [hG] at c3 c5 HC3
    simp only [hG]
    clear hG x3 x5
    go_upto_region 7 with (first
      | (have g := kq5; go_at_call 8; refine (HSj.out _ (k3.trans kq5)).mono ?_; rintro e w6 ⟨rfl, hk6⟩; have kq6 : Kept W3 w6 := kq5.trans hk6)
      | (have g := kq4; go_at_call 9; refine (HSs.out _ (k3.trans kq4)).mono ?_; rintro e w5 ⟨rfl, hk5⟩; have kq5 : Kept W3 w5 := kq4.trans hk5; obtain ⟨d3, d5⟩ := HC3.out _ kq5)
      | (go_at_call 8; refine (HSi.out _ k3).mono ?_; rintro e w4 ⟨rfl, hk4⟩; have kq4 : Kept W3 w4 := hk4; obtain ⟨d3, d5⟩ := HC3.out _ kq4))
    have K6 : Kept w w6 := HK1.out.trans (k3.trans kq6)
    have hD2 := DrawPicture_ok a0 len0 cap0 _ _ (hs.below K6)
    clear HSi HSs HSj HC3 kq4 kq5 kq6 hk4 hk5 hk6 k3 c3 c5 HK1
    go_wp2_with fail
    refine hD2.mono ?_
    rintro e w7 ⟨v7, z7, rv7, r7, rfl, hO7, hl7, hR7, hrl7, hk7⟩
    obtain ⟨ao7, cp7, rfl, hI7, _, _⟩ := hO7
    obtain ⟨ro7, rp7, rfl, hIr7, _, _⟩ := hR7
    have K7 := K6.trans hk7
    have ka : Kept w7 (w7.alloc (.cells #[.slice ao7 z7.length cp7] 26)) := Kept.alloc (Below.refl _ _) _
    have t8 := Cells.new w7 26 #[.slice ao7 z7.length cp7]
    have hPi := fun (u : World) (hu : Kept w7 u) => impl_Picture_ok u ao7 ro7 cp7 rp7 z7 r7 (hI7.kept hu) (by omega) (hIr7.kept hu) (by omega) (hT.kept (K7.trans hu))
    have hPs := fun (u : World) (hu : Kept w7 u) => spec_Picture_ok u ao7 ro7 cp7 rp7 z7 r7 (hI7.kept hu) (by omega) (hIr7.kept hu) (by omega)
    have hRo := fun (u : World) (hu : Kept w7 u) => impl_RootsOk_ok u ao7 ro7 cp7 rp7 z7 r7 (hI7.kept hu) (by omega) (hIr7.kept hu) (by omega)
    have hem := picL_nil z7 r7
    rw [← str_empty] at hem
    obtain ⟨P, hP⟩ : ∃ x, strOfNums (picL z7 r7) = x := ⟨_, rfl⟩
    obtain ⟨rb, hrb⟩ : ∃ x, rootsR z7 r7 = x := ⟨_, rfl⟩
    simp only [hP] at hPi hPs hem
    simp only [hrb] at hRo hem
    have HPi : Hid _ := hPi
    have HPs : Hid _ := hPs
    have HRo : Hid _ := hRo
    clear hP hrb hPi hPs hRo hD2 hI7 hIr7 hl7 hrl7 K6 hk7
    go_upto_region 8 with (fail)
    obtain ⟨W8, hW8⟩ : ∃ x, w7.alloc (.cells #[.slice ao7 z7.length cp7] 26) = x := ⟨_, rfl⟩
    obtain ⟨B8, hB8⟩ : ∃ x, w7.heap.size = x := ⟨_, rfl⟩
    rw [hW8] at ka t8
    rw [hB8] at t8
    simp only [hW8, hB8]
    clear hW8 hB8
    have c8 := t8.cell 0
    have HC8 : Hid (∀ u, Kept W8 u → u.cell? ⟨B8, 0, none⟩ = some (.slice ao7 z7.length cp7)) := fun u hu => (t8.kept hu).cell 0
    clear t8
    go_upto_region 11 with (first
      | (have g := kq2; go_at_call 13; refine (HRo.out _ (ka.trans kq2)).mono ?_; rintro e w10 ⟨rfl, hk10⟩; have kq3 : Kept W8 w10 := kq2.trans hk10)
      | (have g := kq1; go_at_call 12; refine (HPs.out _ (ka.trans kq1)).mono ?_; rintro e w9 ⟨rfl, hk9⟩; have kq2 : Kept W8 w9 := kq1.trans hk9; have d8 := HC8.out _ kq2)
      | (go_at_call 11; refine (HPi.out _ ka).mono ?_; rintro e w8 ⟨rfl, hk8⟩; have kq1 : Kept W8 w8 := hk8; have d8 := HC8.out _ kq1))
    have K10 : Kept w w10 := K7.trans (ka.trans kq3)
    have hD3 := DrawReach_ok a0 len0 cap0 _ _ (hs.below K10)
    clear HPi HPs HRo HC8 kq1 kq2 kq3 hk8 hk9 hk10 ka c8 K7 hem
    go_wp2_with fail
    refine hD3.mono ?_
    rintro e w11 ⟨v11, zz, rv11, rr, rfl, hO11, hl11, hR11, hrl11, hk11⟩
    obtain ⟨ao11, cp11, rfl, hI11, _, _⟩ := hO11
    obtain ⟨ro11, rp11, rfl, hIr11, _, _⟩ := hR11
    have K11 := K10.trans hk11
    have ka : Kept w11 (w11.alloc (.cells #[.slice ao11 zz.length cp11] 26)) := Kept.alloc (Below.refl _ _) _
    have t12 := Cells.new w11 26 #[.slice ao11 zz.length cp11]
    have hRi := fun (u : World) (hu : Kept w11 u) => impl_Reach_ok u ao11 ro11 cp11 rp11 zz rr (hI11.kept hu) (by omega) (hIr11.kept hu) (by omega)
    have hRs := fun (u : World) (hu : Kept w11 u) => spec_Reach_ok u ao11 ro11 cp11 rp11 zz rr (hI11.kept hu) (by omega) (hIr11.kept hu) (by omega)
    have hPi := fun (u : World) (hu : Kept w11 u) => impl_Picture_ok u ao11 ro11 cp11 rp11 zz rr (hI11.kept hu) (by omega) (hIr11.kept hu) (by omega) (hT.kept (K11.trans hu))
    have hem := picL_nil zz rr
    rw [← str_empty] at hem
    have hep := ends_pic zz rr
    have hpl := picL_len hI11.1 hIr11.1 (by omega : rr.length ≤ 1048576)
    rw [← str_size] at hpl
    have hrl : (reachL zz rr).length ≤ 1048576 := by
      cases hq : rootsR zz rr with
      | true =>
        have h1 := (ordL_met hq).len
        rw [reachL_len hq]
        omega
      | false => simp [reachL, hq]
    obtain ⟨P, hP⟩ : ∃ x, strOfNums (picL zz rr) = x := ⟨_, rfl⟩
    obtain ⟨rb, hrb⟩ : ∃ x, rootsR zz rr = x := ⟨_, rfl⟩
    obtain ⟨L, hL⟩ : ∃ x, reachL zz rr = x := ⟨_, rfl⟩
    simp only [hP] at hPi hem hep hpl
    simp only [hrb] at hem hep
    simp only [hL] at hRi hRs hep hrl
    have HPi : Hid _ := hPi
    have HRi : Hid _ := hRi
    have HRs : Hid _ := hRs
    have HEM : Hid (P.toList.isEmpty = !rb ∧ (rb = true → endsN P P.size = L.length + 1)) := ⟨hem, hep⟩
    clear hP hrb hL hPi hRi hRs hD3 hI11 hIr11 hl11 hrl11 K10 hk11 hem hep
    go_upto_region 12 with (fail)
    obtain ⟨W12, hW12⟩ : ∃ x, w11.alloc (.cells #[.slice ao11 zz.length cp11] 26) = x := ⟨_, rfl⟩
    obtain ⟨B12, hB12⟩ : ∃ x, w11.heap.size = x := ⟨_, rfl⟩
    rw [hW12] at ka t12
    rw [hB12] at t12
    simp only [hW12, hB12]
    clear hW12 hB12
    have c12 := t12.cell 0
    have HC12 : Hid (∀ u, Kept W12 u → u.cell? ⟨B12, 0, none⟩ = some (.slice ao11 zz.length cp11)) := fun u hu => (t12.kept hu).cell 0
    clear t12
    go_wp2_with (first
      | (have g := kq1; go_at_call 11; refine (HPi.out _ (ka.trans kq1)).mono ?_; rintro e w14 ⟨rfl, hk14⟩; have kq2 : Kept W12 w14 := kq1.trans hk14; have d12 := HC12.out _ kq2)
      | (go_at_call 15; refine (HRi.out _ ka).mono ?_; rintro e w13 ⟨v13, rfl, hO13, hk13⟩; obtain ⟨la, lc, rfl, hL13⟩ := hO13.ints; have kq1 : Kept W12 w13 := hk13; have d12 := HC12.out _ kq1))
    have hL14 := hL13.kept hk14
    clear HPi HRi hO13 hL13 hk13 hk14 kq1
    go_loopw [14, 16] (fun lv iv wr => ∃ (k : Nat), iv = .int .i64 k ∧ k ≤ P.size ∧ lv = .int .i64 (endsN P k : Nat) ∧ wr = w14) (fun _ i _ => P.size - (intOf i).toNat)
    case atStart => exact ⟨0, rfl, Nat.zero_le _, rfl, rfl⟩
    case round =>
      obtain ⟨k, rfl, hk, rfl, rfl⟩ := hrel
      have hel := endsN_le P k
      by_cases hlt : k < P.size
      · have q1 : (k : Int) < (P.size : Int) := by omega
        have hbb := byteN_in P k
        go_wp2_with fail
        all_goals (
          rename_i ht
          rw [byteN_get P k hlt] at ht
          have hn : endsN P (k + 1) = if byteN P k = 10 then endsN P k + 1 else endsN P k := rfl
          first
            | (have h10 : byteN P k = 10 := by simpa using ht
               rw [if_pos h10] at hn
               refine ⟨⟨k + 1, by go_num, by omega, by rw [hn]; go_num, trivial⟩, by simp [intOf]; omega⟩)
            | (have h10 : ¬ byteN P k = 10 := by simpa using ht
               rw [if_neg h10] at hn
               refine ⟨⟨k + 1, by go_num, by omega, by rw [hn], trivial⟩, by simp [intOf]; omega⟩))
      · have HS2 : Hid (endsN P k = endsN P P.size) := by rw [Hid, show k = P.size by omega]
        have q1 : ¬ (k : Int) < (P.size : Int) := by omega
        cases rb with
        | false =>
          have n1 : P.toList.isEmpty = true := HEM.out.1
          clear HEM HS2
          go_wp2_with (first
            | (have g := kq3; go_at_call 16; refine (sameInts_ok _ la lb lc lbc L (hL14.kept hk16) hLs hrl).mono ?_; rintro e w17 ⟨rfl, hk17⟩; have kq4 : Kept W12 w17 := kq3.trans hk17)
            | (go_at_call 17; refine (HRs.out _ (ka.trans kq2)).mono ?_; rintro e w16 ⟨v16, rfl, hO16, hk16⟩; obtain ⟨lb, lbc, rfl, hLs⟩ := hO16.ints; have kq3 : Kept W12 w16 := kq2.trans hk16))
          go_ret
          exact ⟨rfl, K11.trans (ka.trans kq4)⟩
        | true =>
          have n1 : P.toList.isEmpty = false := HEM.out.1
          have e1 : (((endsN P k : Nat) : Int) == (L.length : Int) + 1) = true := by
            rw [HS2.out, HEM.out.2 rfl]
            simp
          clear HEM HS2
          go_wp2_with (first
            | (have g := kq3; go_at_call 16; refine (sameInts_ok _ la lb lc lbc L (hL14.kept hk16) hLs hrl).mono ?_; rintro e w17 ⟨rfl, hk17⟩; have kq4 : Kept W12 w17 := kq3.trans hk17)
            | (go_at_call 17; refine (HRs.out _ (ka.trans kq2)).mono ?_; rintro e w16 ⟨v16, rfl, hO16, hk16⟩; obtain ⟨lb, lbc, rfl, hLs⟩ := hO16.ints; have kq3 : Kept W12 w16 := kq2.trans hk16))
          go_ret
          exact ⟨rfl, K11.trans (ka.trans kq4)⟩

set_option maxRecDepth 100000 in
theorem lifted (os : Os) (started : os.Started) (H : Type) (enc : TypeId × Value → H) :
    ReturnsInHanded {} Tryz.checked os 3 .any (fun w args => (Rows.fnPicturesSpec.pre enc Tryz.prog Tryz.f3 [] false w args ∧ laidMetH Tryz.prog Rows.fnPicturesRow.laid w) ∧ sizedMet enc Tryz.prog Tryz.f3 (OpenSpec.ofChange Rows.fnPicturesSpec) false w args)
      (Rows.fnPicturesSpec.post enc Tryz.prog Tryz.f3 false true false false) := by
  refine returnsInHanded_of_change_and (C := Tryz.checked) (X := fun w _ => laidMetH Tryz.prog Rows.fnPicturesRow.laid w) (fun _ _ _ hh h => h.of_heap hh) own started (by kernel_rfl) Tryz.func3
    (ChangeSpec.witness_at (enc := enc) (C := Tryz.checked) (os := os) (X := fun w _ => laidMetH Tryz.prog Rows.fnPicturesRow.laid w) false (laidWorld os) #[.slice none 0 0] 8 rfl (by kernel_rfl) (by kernel_rfl) (by kernel_rfl) (by kernel_rfl) (by kernel_rfl) (laidWorld_met os _)) ?_
  intro W base args ds gs before hval0 hW _ _ hL _
  have hval : ∀ (j : Nat) t v, Tryz.f3.params[j]? = some t → args[j]? = some v → Value.okWide Tryz.prog W .any base t v := hval0
  have hW' := hW
  obtain ⟨p, q, hA0, hV, rfl, hfz, hnd⟩ := hW
  have hA : DataW.TrodAll enc Tryz.prog W 0 (fun _ => true) true Tryz.f3.params.toList args.toList ds p := hA0
  rw [Tryz.params3] at hA hval
  obtain ⟨v0, vs0, d0, ds0, p0, q0, hargs0, rfl, rfl, h0, r0⟩ := trodAll_cons hA
  obtain ⟨rfl, rfl, rfl⟩ := trodAll_nil r0
  obtain rfl : args = #[v0] := by cases args; simp_all
  obtain ⟨rfl, rfl⟩ := trodVars_none hV
  clear hA0 hval0
  simp only [List.append_nil] at hW'
  have hlt0 : ∀ x ∈ p0, x.block < W.heap.size := fun x hx => by simpa using hW'.lt x (by simp [hx])
  obtain ⟨a0, len0, cap0, rfl⟩ := okWide_slice Tryz.underlying22 (hval 0 22 v0 rfl rfl)
  obtain ⟨z0, w0⟩ : ∃ zs : List Int, (a0 = none ∧ len0 = 0 ∧ cap0 = 0 ∧ zs = []) ∨ ∃ x, a0 = some x ∧ len0 ≤ cap0 ∧ cap0 ≤ maxLen ∧ zs.length = cap0 ∧ (∀ i, i < zs.length → W.cell? (x.add i) = some (.int .u8 (zs.getD i 0))) ∧ ∀ n ∈ zs, (Lit.int .u8 n).wf = true := by
    obtain ⟨fuel, hf⟩ := h0
    rcases open_ints Tryz.underlying22 Tryz.underlying5 (by kernel_rfl) hf with ⟨hcs, _⟩ | ⟨x, l, c, zs, hcs, _, hl, hm, hz, _, hcell, hwz⟩
    · simp [Value.cells] at hcs
      obtain ⟨rfl, rfl, rfl⟩ := hcs
      exact ⟨[], .inl ⟨rfl, rfl, rfl, rfl⟩⟩
    · simp [Value.cells] at hcs
      obtain ⟨rfl, rfl, rfl⟩ := hcs
      exact ⟨zs, .inr ⟨_, rfl, hl, hm, by simpa using hz, hcell, hwz⟩⟩
  refine (walk W (tab_of_laid hL) a0 len0 cap0 z0 w0).mono fun e W' ⟨he, hk⟩ => ?_
  subst he
  refine ⟨_, rfl, _, _, _, [], p0 ++ [], [], hW', ?_, ?_, rfl, hk.frame _, fun h => by cases h⟩
  · exact trodAll_cons_mk (shut_bool Tryz.underlying4 _) trodAll_mk0
  · exact (trodAll_cons_mk (Below.trod laid (by kernel_rfl) (of_decide_eq_true (by kernel_rfl)) h0 hk hlt0) trodAll_mk0)

theorem over : Rows.fnPicturesRow.holds Tryz.pinned (OpenSpec.ofChange Rows.fnPicturesSpec) :=
  OpenClaim.holds_of_wide 3 Tryz.f3 rfl rfl rfl rfl rfl rfl rfl ⟨rfl, rfl, rfl, rfl, rfl⟩ rfl rfl rfl rfl rfl (by kernel_rfl) Tryz.func3 (by kernel_rfl)
    (of_decide_eq_true (by kernel_rfl)) (by unfold Func.isWrapper; first | (rw [if_pos (by decide +kernel)]; kernel_rfl) | (rw [if_neg (by decide +kernel)]; exact ⟨rfl, rfl⟩))
    (fun os started H enc _ => lifted os started H enc)

theorem proved : Rows.FnPicturesCardSaid :=
  Claim7.holds_tied_plain_at .later [] [.data, .data, .data] true (true, Rows.fnPicturesCard.stood.harness.2) true
    over (fun _ h => by cases h) (by kernel_rfl) (fun _ h => by cases h) fnPictures_row_tie rfl ⟨rfl, rfl⟩ (by kernel_rfl) rfl
    (fun f fn hf hfn => by
      obtain rfl : f = 3 := Option.some.inj ((show Tryz.prog.funcNamed Rows.fnPicturesRow.func = some 3 by kernel_rfl).symm.trans hf) |>.symm
      obtain rfl : fn = Tryz.f3 := (Option.some.inj (Tryz.func3.symm.trans hfn)).symm
      exact ⟨by kernel_rfl, fun j t ht => by
        rw [Tryz.params3] at ht
        have hm : t ∈ [22] := by
          have := List.mem_of_getElem? (l := [22]) (i := j) (a := t) (by simpa using ht)
          exact this
        have hall : ∀ t ∈ [22], Tryz.prog.wantsStandIn t = false := by
          intro t ht
          simp only [List.mem_cons, List.not_mem_nil, or_false] at ht
          rcases ht with rfl <;> kernel_rfl
        exact hall t hm⟩)
    (by kernel_rfl)
#print axioms proved
end Go.Proofs.YtgnpllpinfhccaaGreatDoor.fnPictures
