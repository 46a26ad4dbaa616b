/-
  What a right heap holds (facts on lists): each block is right, each of its values leads to a block, or nowhere.
-/
import Derived.Test.YtpljjeknphnnpaaGreatShapeB
import Derived.Test.YtpljjeknphnnpaaGreatShapeG
import Derived.Test.YtpljjeknphnnpaaGreatHeapQ
import Derived.Test.YtpljjeknphnnpaaGreatSlabAt
namespace Go.Proofs.YtpljjeknphnnpaaGreat
open Go.RowKit

theorem someL_at {a n k : Nat} (h : k < n) : hz (someL a n) k = ((a + k : Nat) : Int) := by simp [hz, someL, h]
theorem goal_pos (r k : Int) : 1 ≤ goalR r k := by
  unfold goalR
  repeat' split
  all_goals omega
theorem slots_facts {zs : List Int} (hh : heapR zs = true) {b : BkOf zs.length} (hb : b ∈ blocks zs) :
    shapeR zs ((b.1.at' : Nat) : Int) = true ∧ (slotsL zs ((b.1.at' : Nat) : Int)).length ≤ zs.length ∧ ∀ k, k < (slotsL zs ((b.1.at' : Nat) : Int)).length → ∃ p : Nat, hz (slotsL zs ((b.1.at' : Nat) : Int)) k = p ∧ p < zs.length ∧ vOk (hz zs p) = true ∧ (4 ≤ hz zs p % 8 → 1 ≤ kindAt zs (hz zs p / 8)) := by
  have hok := heapR_slab hh
  have ha := atB_mem hok hb
  have hr := heapR_blk hh hb
  have hlen := (slabOk_iff.1 hok).1
  have hble := b.2.2.1
  have hk5 := b.2.2.2
  unfold shapeR slotsL
  rw [ha]
  simp only
  refine ⟨hr, by have := slL_len b.1.at' b.1.kind b.1.size; omega, fun k hk => ?_⟩
  have hoff : 1 ≤ slOff b.1.kind := by unfold slOff; split <;> omega
  rw [slL, someL_len] at hk
  rw [slL, someL_at hk]
  refine ⟨_, rfl, by omega, ?_⟩
  unfold blkR at hr
  rw [Bool.and_eq_true, wordsR_iff] at hr
  have hw := hr.2 (slOff b.1.kind + k) (by omega) (by omega)
  have hrole := role_value hk5 (hz zs (b.1.at' + 1)) (k := slOff b.1.kind + k) (by omega) (by omega)
  rw [show decide (slOff b.1.kind ≤ slOff b.1.kind + k ∧ slOff b.1.kind + k < slOff b.1.kind + slMany b.1.kind) = true by simp; omega] at hrole
  simp only [decide_eq_true_eq] at hrole
  rw [show b.1.at' + (slOff b.1.kind + k) = b.1.at' + slOff b.1.kind + k by omega] at hw
  obtain ⟨v, hv⟩ : ∃ v, hz zs (b.1.at' + slOff b.1.kind + k) = v := ⟨_, rfl⟩
  rw [hv] at hw ⊢
  unfold wordR at hw
  rw [if_neg (by omega), if_neg (by omega), if_neg (by omega), if_neg (by omega), if_neg (by omega)] at hw
  unfold valR at hw
  simp only [Bool.and_eq_true, Bool.or_eq_true, Bool.not_eq_true', decide_eq_true_eq, decide_eq_false_iff_not] at hw
  refine ⟨hw.1.1, fun h4 => ?_⟩
  rcases hw.2 with h | h
  · omega
  · rw [h]
    exact goal_pos _ _
end Go.Proofs.YtpljjeknphnnpaaGreat
