/-
  Whether a number is among others: slices.Index and slices.Contains of integers.
-/
import Derived.Test.YtjgafhmgmddgdaaSlabI
namespace Go.Proofs.Ytjgafhmgmddgdaa
open Go.RowKit

set_option maxHeartbeats 4000000 in
set_option maxRecDepth 100000 in
theorem intIndex_ok (w : World) (ao : Option Addr) (cap : Nat) (vs : List Int) (x : Int) (hI : Ints w ao vs) (hl : vs.length ≤ 1048576) :
    Calls Try.prog 74 #[.slice ao vs.length cap, .int .i64 x] w fun e w' => ∃ r : Int, e = .returned (.int .i64 r) ∧ (0 ≤ r ↔ x ∈ vs) ∧ Kept w w' := by
  have HI : Hid _ := hI
  clear hI
  go_enter Try.func74, Try.ntmps74
  go_wp2_with fail
  go_loopw [8] (fun i wr => ∃ k : Nat, i = .int .i64 k ∧ k ≤ vs.length ∧ (∀ j q, j < k → vs[j]? = some q → q ≠ x) ∧ Kept w wr) (fun i _ => vs.length - (intOf i).toNat)
  case atStart => exact ⟨0, rfl, Nat.zero_le _, fun j q h => absurd h (by omega), Below.refl _ _⟩
  case round =>
    obtain ⟨k, rfl, hk, hno, hK⟩ := hrel
    have HN : Hid _ := hno
    have HK1 : Hid _ := hK
    clear hno
    by_cases hlt : k < vs.length
    · obtain ⟨b, off, rfl, hc⟩ := Ints.at (Ints.kept HI.out hK) (k := k) hlt
      have c0 := hc k hlt
      have hq : vs[k]? = some (hz vs k) := by simp [hz, List.getElem?_eq_getElem hlt]
      obtain ⟨q, hqq⟩ : ∃ q, hz vs k = q := ⟨_, rfl⟩
      rw [hqq] at c0 hq
      have q1 : (k : Int) < (vs.length : Int) := by omega
      have q0 : (0 : Int) ≤ (k : Int) := by omega
      clear hc hK hqq
      by_cases he : q = x
      · subst he
        have HM : Hid (q ∈ vs) := List.mem_of_getElem? hq
        clear hq
        go_wp2
        go_ret
        exact ⟨_, rfl, ⟨fun _ => HM.out, fun _ => by omega⟩, HK1.out⟩
      · have e1 : (x == q) = false := by rw [beq_eq_false_iff_ne]; exact fun h => he h.symm
        have HQ : Hid _ := hq
        clear hq
        go_wp2
        go_roundw
        case rel => exact ⟨k + 1, by go_num, by omega, fun j q' hj hq' => by
          rcases Nat.lt_succ_iff_lt_or_eq.1 hj with h | h
          · exact HN.out j q' h hq'
          · rw [h, HQ.out] at hq'; cases hq'; exact he, HK1.out⟩
        case measure => simp [intOf]; omega
    · obtain rfl : k = vs.length := by omega
      clear hK
      go_wp2
      go_ret
      refine ⟨_, rfl, ⟨fun h => absurd h (by omega), fun h => ?_⟩, HK1.out⟩
      obtain ⟨j, hj, e⟩ := List.getElem_of_mem h
      exact absurd e (HN.out j _ hj (List.getElem?_eq_getElem hj))
set_option maxHeartbeats 4000000 in
set_option maxRecDepth 100000 in
theorem intContains_ok (w : World) (ao : Option Addr) (cap : Nat) (vs : List Int) (x : Int) (hI : Ints w ao vs) (hl : vs.length ≤ 1048576) :
    Calls Try.prog 49 #[.slice ao vs.length cap, .int .i64 x] w fun e w' => e = .returned (.bool (decide (x ∈ vs))) ∧ Kept w w' := by
  have hC := intIndex_ok w ao cap vs x hI hl
  go_enter Try.func49, Try.ntmps49
  go_wp2_with fail
  refine hC.mono ?_
  rintro e w1 ⟨r, rfl, hr, hk1⟩
  have hd : decide (0 ≤ r) = decide (x ∈ vs) := by simp [hr]
  clear hr hC
  go_wp2_with fail
  go_ret
  exact ⟨rfl, hk1⟩
end Go.Proofs.Ytjgafhmgmddgdaa
