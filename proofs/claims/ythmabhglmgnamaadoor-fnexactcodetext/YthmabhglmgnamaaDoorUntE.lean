/-
  What the laws do with units: whether two are the same (chapter 15).
-/
import Derived.Test.YthmabhglmgnamaaDoorUntP
namespace Go.Proofs.YthmabhglmgnamaaDoor
open Go.ChangeShapes Go.WideShapes Go.ChangeAt Go.RowKit
set_option linter.unusedSimpArgs false
set_option linter.unusedVariables false
set_option maxHeartbeats 8000000 in
set_option maxRecDepth 100000 in
theorem eqStep_ok (w : World) (o a b : Int) :
    Calls Tryd.prog 49 #[.agg #[.int .i64 o, .int .i64 a, .int .i64 b], .agg #[.int .i64 o, .int .i64 a, .int .i64 b]] w fun e w' => e = .returned (.bool true) ∧ Kept w w' := by
  have h0 : (o != o) = false := by simp
  have h1 : (a != a) = false := by simp
  have h2 : (b != b) = false := by simp
  go_enter Tryd.func49, Tryd.ntmps49
  go_wp2_with fail
  go_ret
  exact ⟨rfl, (Kept.alloc (Below.refl _ w) _).alloc _⟩
set_option maxHeartbeats 8000000 in
set_option maxRecDepth 100000 in
theorem eqStepS_ok (w : World) (ao bo : Option Addr) (ca cb : Nat) (ss : List Stp) (hA : StpsA w ao ss) (hB : StpsA w bo ss) (hl : ss.length ≤ 1048576) :
    Calls Tryd.prog 29 #[.slice ao ss.length ca, .slice bo ss.length cb] w fun e w' => e = .returned (.bool true) ∧ Kept w w' := by
  have HA : Hid _ := hA
  have HB : Hid _ := hB
  clear hA hB
  go_enter Tryd.func29, Tryd.ntmps29
  go_wp2_with fail
  go_loopw [5] (fun i wr => ∃ k : Nat, i = .int .i64 k ∧ k ≤ ss.length ∧ Hid (Kept w wr)) (fun i _ => ss.length - (intOf i).toNat)
  case atStart => exact ⟨0, rfl, Nat.zero_le _, Below.refl _ _⟩
  case round =>
    obtain ⟨k, rfl, hk, HK⟩ := hrel
    by_cases hlt : k < ss.length
    · obtain ⟨t, ht⟩ : ∃ t, ss[k]? = some t := ⟨_, List.getElem?_eq_getElem hlt⟩
      have kd : Kept w wr.drew := Below.drew HK.out
      obtain ⟨b, off, rfl, h0, h1, h2⟩ := (StpsA.kept HA.out kd) k t ht
      obtain ⟨b', off', rfl, h0', h1', h2'⟩ := (StpsA.kept HB.out kd) k t ht
      have hC := eqStep_ok wr.drew t.1 t.2.1 t.2.2
      have q1 : (k : Int) < (ss.length : Int) := by omega
      have q0 : (0 : Int) ≤ (k : Int) := by omega
      have HD : Hid _ := kd
      clear ht kd
      go_wp2_with fail
      go_region_with (go_at_call 49; refine hC.mono ?_; rintro e wx ⟨rfl, hkx⟩)
      all_goals (
        go_wp2_with fail
        go_roundw
        case rel => exact ⟨k + 1, by go_num, by omega, Kept.trans HD.out hkx⟩
        case measure => simp [intOf]; omega)
    · have q1 : ¬ (k : Int) < (ss.length : Int) := by omega
      go_wp2_with fail
      go_ret
      exact ⟨rfl, HK.out⟩
set_option maxHeartbeats 8000000 in
set_option maxRecDepth 100000 in
theorem eqCode_ok (w : World) (x y : Int) (ao bo : Option Addr) (ca cb : Nat) (ss : List Stp) (hA : StpsA w ao ss) (hB : StpsA w bo ss) (hl : ss.length ≤ 1048576) :
    Calls Tryd.prog 10 #[.agg #[.int .i64 x, .int .i64 y, .slice ao ss.length ca], .agg #[.int .i64 x, .int .i64 y, .slice bo ss.length cb]] w fun e w' => e = .returned (.bool true) ∧ Kept w w' := by
  have hk : Kept w ((w.alloc (.cells #[.int .i64 x, .int .i64 y, .slice ao ss.length ca] 29)).alloc (.cells #[.int .i64 x, .int .i64 y, .slice bo ss.length cb] 29)) := (Kept.alloc (Below.refl _ w) _).alloc _
  have hC := eqStepS_ok _ ao bo ca cb ss (hA.kept hk) (hB.kept hk) hl
  have h0 : (x != x) = false := by simp
  have h1 : (y != y) = false := by simp
  clear hA hB
  go_enter Tryd.func10, Tryd.ntmps10
  go_wp2_with (go_at_call 29; refine hC.mono ?_; rintro e w1 ⟨rfl, hK⟩)
  go_ret
  exact ⟨rfl, hk.trans hK⟩
end Go.Proofs.YthmabhglmgnamaaDoor
