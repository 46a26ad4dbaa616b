/-
  What the laws do with units: whether two are the same (chapter 15).
-/
import Derived.Test.YtgempjjnfpmndaaUntP
namespace Go.Proofs.Ytgempjjnfpmndaa
open Go.ChangeShapes Go.WideShapes Go.ChangeAt Go.RowKit
set_option linter.unusedSimpArgs false
set_option linter.unusedVariables false
set_option maxHeartbeats 8000000 in
set_option maxRecDepth 100000 in
theorem eqStep_ok (w : World) (o a b : Int) :
    Calls Try.prog 54 #[.agg #[.int .i64 o, .int .i64 a, .int .i64 b], .agg #[.int .i64 o, .int .i64 a, .int .i64 b]] w fun e w' => e = .returned (.bool true) ∧ Kept w w' := by
  have h0 : (o != o) = false := by simp
  have h1 : (a != a) = false := by simp
  have h2 : (b != b) = false := by simp
  go_enter Try.func54, Try.ntmps54
  go_wp2_with fail
  go_ret
  exact ⟨rfl, (Kept.alloc (Below.refl _ w) _).alloc _⟩
set_option maxHeartbeats 8000000 in
set_option maxRecDepth 100000 in
theorem eqStepS_ok (w : World) (ao bo : Option Addr) (ca cb : Nat) (ss : List Stp) (hA : StpsA w ao ss) (hB : StpsA w bo ss) (hl : ss.length ≤ 1048576) :
    Calls Try.prog 52 #[.slice ao ss.length ca, .slice bo ss.length cb] w fun e w' => e = .returned (.bool true) ∧ Kept w w' := by
  have HA : Hid _ := hA
  have HB : Hid _ := hB
  clear hA hB
  go_enter Try.func52, Try.ntmps52
  go_wp2_with fail
  go_loopw [5] (fun i wr => ∃ k : Nat, i = .int .i64 k ∧ k ≤ ss.length ∧ Hid (Kept w wr)) (fun i _ => ss.length - (intOf i).toNat)
  case atStart => exact ⟨0, rfl, Nat.zero_le _, Below.refl _ _⟩
  case round =>
    obtain ⟨k, rfl, hk, HK⟩ := hrel
    by_cases hlt : k < ss.length
    · obtain ⟨t, ht⟩ : ∃ t, ss[k]? = some t := ⟨_, List.getElem?_eq_getElem hlt⟩
      have kd : Kept w wr.drew := Below.drew HK.out
      obtain ⟨b, off, rfl, h0, h1, h2⟩ := (StpsA.kept HA.out kd) k t ht
      obtain ⟨b', off', rfl, h0', h1', h2'⟩ := (StpsA.kept HB.out kd) k t ht
      have hC := eqStep_ok wr.drew t.1 t.2.1 t.2.2
      have q1 : (k : Int) < (ss.length : Int) := by omega
      have q0 : (0 : Int) ≤ (k : Int) := by omega
      have HD : Hid _ := kd
      clear ht kd
      go_wp2_with fail
      go_region_with (go_at_call 54; refine hC.mono ?_; rintro e wx ⟨rfl, hkx⟩)
      all_goals (
        go_wp2_with fail
        go_roundw
        case rel => exact ⟨k + 1, by go_num, by omega, Kept.trans HD.out hkx⟩
        case measure => simp [intOf]; omega)
    · have q1 : ¬ (k : Int) < (ss.length : Int) := by omega
      go_wp2_with fail
      go_ret
      exact ⟨rfl, HK.out⟩
set_option maxHeartbeats 8000000 in
set_option maxRecDepth 100000 in
theorem eqCode_ok (w : World) (x y : Int) (ao bo : Option Addr) (ca cb : Nat) (ss : List Stp) (hA : StpsA w ao ss) (hB : StpsA w bo ss) (hl : ss.length ≤ 1048576) :
    Calls Try.prog 48 #[.agg #[.int .i64 x, .int .i64 y, .slice ao ss.length ca], .agg #[.int .i64 x, .int .i64 y, .slice bo ss.length cb]] w fun e w' => e = .returned (.bool true) ∧ Kept w w' := by
  have hk : Kept w ((w.alloc (.cells #[.int .i64 x, .int .i64 y, .slice ao ss.length ca] 90)).alloc (.cells #[.int .i64 x, .int .i64 y, .slice bo ss.length cb] 90)) := (Kept.alloc (Below.refl _ w) _).alloc _
  have hC := eqStepS_ok _ ao bo ca cb ss (hA.kept hk) (hB.kept hk) hl
  have h0 : (x != x) = false := by simp
  have h1 : (y != y) = false := by simp
  clear hA hB
  go_enter Try.func48, Try.ntmps48
  go_wp2_with (go_at_call 52; refine hC.mono ?_; rintro e w1 ⟨rfl, hK⟩)
  go_ret
  exact ⟨rfl, hk.trans hK⟩
set_option maxHeartbeats 8000000 in
set_option maxRecDepth 100000 in
theorem eqCodeS_ok (w : World) (ao bo : Option Addr) (ca cb : Nat) (cs : List Cod) (hA : CodsA w ao cs) (hB : CodsA w bo cs) (hl : cs.length ≤ 1048576) (hi : ∀ c ∈ cs, c.ss.length ≤ 1048576) :
    Calls Try.prog 42 #[.slice ao cs.length ca, .slice bo cs.length cb] w fun e w' => e = .returned (.bool true) ∧ Kept w w' := by
  have HA : Hid _ := hA
  have HB : Hid _ := hB
  have HI : Hid _ := hi
  clear hA hB hi
  go_enter Try.func42, Try.ntmps42
  go_wp2_with fail
  go_loopw [5] (fun i wr => ∃ k : Nat, i = .int .i64 k ∧ k ≤ cs.length ∧ Hid (Kept w wr)) (fun i _ => cs.length - (intOf i).toNat)
  case atStart => exact ⟨0, rfl, Nat.zero_le _, Below.refl _ _⟩
  case round =>
    obtain ⟨k, rfl, hk, HK⟩ := hrel
    by_cases hlt : k < cs.length
    · obtain ⟨t, ht⟩ : ∃ t, cs[k]? = some t := ⟨_, List.getElem?_eq_getElem hlt⟩
      have kd : Kept w wr.drew := Below.drew HK.out
      obtain ⟨b, off, xo, xc, rfl, h0, h1, h2, hX⟩ := (CodsA.kept HA.out kd) k t ht
      obtain ⟨b', off', yo, yc, rfl, h0', h1', h2', hY⟩ := (CodsA.kept HB.out kd) k t ht
      have hC := eqCode_ok wr.drew t.n t.v xo yo xc yc t.ss hX hY (HI.out t (List.mem_of_getElem? ht))
      have q1 : (k : Int) < (cs.length : Int) := by omega
      have q0 : (0 : Int) ≤ (k : Int) := by omega
      have HD : Hid _ := kd
      clear ht kd hX hY
      go_wp2_with fail
      go_region_with (go_at_call 48; refine hC.mono ?_; rintro e wx ⟨rfl, hkx⟩)
      all_goals (
        go_wp2_with fail
        go_roundw
        case rel => exact ⟨k + 1, by go_num, by omega, Kept.trans HD.out hkx⟩
        case measure => simp [intOf]; omega)
    · have q1 : ¬ (k : Int) < (cs.length : Int) := by omega
      go_wp2_with fail
      go_ret
      exact ⟨rfl, HK.out⟩
set_option maxHeartbeats 8000000 in
set_option maxRecDepth 100000 in
theorem eqUnit_ok (w : World) (ca cb ta tb : Option Addr) (ac bc at' bt : Nat) (cs : List Cod) (ts : List ByteArray) (hA : CodsA w ca cs) (hB : CodsA w cb cs) (hC : StA w ta ts) (hD : StA w tb ts) (hl : cs.length ≤ 1048576) (hi : ∀ c ∈ cs, c.ss.length ≤ 1048576) (ht : ts.length ≤ 1048576) :
    Calls Try.prog 27 #[.agg #[.slice ca cs.length ac, .slice ta ts.length at'], .agg #[.slice cb cs.length bc, .slice tb ts.length bt]] w fun e w' => e = .returned (.bool true) ∧ Kept w w' := by
  have hk : Kept w ((w.alloc (.cells #[.slice ca cs.length ac, .slice ta ts.length at'] 40)).alloc (.cells #[.slice cb cs.length bc, .slice tb ts.length bt] 40)) := (Kept.alloc (Below.refl _ w) _).alloc _
  have bx := (Cells.new w 40 #[.slice ca cs.length ac, .slice ta ts.length at']).alloc (.cells #[.slice cb cs.length bc, .slice tb ts.length bt] 40)
  have by' := Cells.new (w.alloc (.cells #[.slice ca cs.length ac, .slice ta ts.length at'] 40)) 40 #[.slice cb cs.length bc, .slice tb ts.length bt]
  simp only [World.size_alloc] at by'
  have h1 := eqCodeS_ok _ ca cb ac bc cs (hA.kept hk) (hB.kept hk) hl hi
  have H2 : Hid (∀ u, Kept ((w.alloc (.cells #[.slice ca cs.length ac, .slice ta ts.length at'] 40)).alloc (.cells #[.slice cb cs.length bc, .slice tb ts.length bt] 40)) u → Calls Try.prog 26 #[.slice ta ts.length at', .slice tb ts.length bt] u fun e w' => e = .returned (.bool true) ∧ Kept u w') := fun u hu => eqStrS_ok u ta tb at' bt ts ((hC.kept hk).kept hu) ((hD.kept hk).kept hu) ht
  clear hA hB hC hD hi
  go_enter Try.func27, Try.ntmps27
  go_wp2_with (first
    | (have _tk := hk1; go_at_call 26; refine (H2.out _ hk1).mono ?_; rintro e w2 ⟨rfl, hk2⟩)
    | (go_at_call 42; refine h1.mono ?_; rintro e w1 ⟨rfl, hk1⟩; have m := bx.kept hk1; have m0 := m.cell 0; have m1 := m.cell 1; have n := by'.kept hk1; have n0 := n.cell 0; have n1 := n.cell 1))
  go_ret
  exact ⟨rfl, (hk.trans hk1).trans hk2⟩
end Go.Proofs.Ytgempjjnfpmndaa
