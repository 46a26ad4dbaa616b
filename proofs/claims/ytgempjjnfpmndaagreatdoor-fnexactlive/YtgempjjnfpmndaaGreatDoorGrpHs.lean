/-
  Facts on lists: to what a value leads; lists of places, each once.
  A block of the slab is found at its place.
  What a right heap holds (facts on lists): each block is right, each of its values leads to a block, or nowhere.
-/
import Derived.Test.YtgempjjnfpmndaaGreatDoorZTextA
import Derived.Test.YtgempjjnfpmndaaGreatDoorSlabP
import Derived.Test.YtgempjjnfpmndaaGreatDoorZShapeB
import Derived.Test.YtgempjjnfpmndaaGreatDoorGrpSf
namespace Go.Proofs.YtgempjjnfpmndaaGreatDoor
open Go.RowKit

theorem leads_kind {zs : List Int} {v inner : Int} (h : leadsR zs v inner = true) (h4 : 4 ≤ v % 8) : kindAt zs (v / 8) = wantK (v % 8) inner := by
  unfold leadsR at h
  simp only [Bool.and_eq_true, Bool.or_eq_true, decide_eq_true_eq] at h
  rcases h.2 with h | h
  · omega
  · exact h
theorem nodup_le : ∀ (n : Nat) (ps : List Nat), ps.Nodup → (∀ p ∈ ps, p < n) → ps.length ≤ n
  | 0, ps, _, h => by
    cases ps with
    | nil => simp
    | cons p _ => exact absurd (h p (by simp)) (by omega)
  | n + 1, ps, hd, h => by
    have h1 := nodup_le n (ps.erase n) (hd.erase n) (fun p hp => by
      have := hd.mem_erase_iff.1 hp
      have := h p this.2
      omega)
    have := List.length_erase (a := n) (l := ps)
    split at this <;> omega
end Go.Proofs.YtgempjjnfpmndaaGreatDoor
namespace Go.Proofs.YtgempjjnfpmndaaGreatDoor
open Go.RowKit

theorem atB_mem {zs : List Int} (hok : slabOk zs = true) {b : BkOf zs.length} (hb : b ∈ blocks zs) : atB zs ((b.1.at' : Nat) : Int) = some b := by
  unfold atB
  rw [if_pos hok]
  obtain ⟨p, r, e⟩ := List.append_of_mem hb
  have hs := blks_sorted zs 0
  rw [show blks zs 0 = blocks zs from rfl, e] at hs
  rw [e, List.find?_append]
  have : p.find? (fun c => decide (((c.1.at' : Nat) : Int) = ((b.1.at' : Nat) : Int))) = none := by
    rw [List.find?_eq_none]
    intro c hc
    have := (List.pairwise_append.1 hs).2.2 c hc b (by simp)
    simp; omega
  rw [this]
  simp
end Go.Proofs.YtgempjjnfpmndaaGreatDoor
namespace Go.Proofs.YtgempjjnfpmndaaGreatDoor
open Go.RowKit

theorem someL_at {a n k : Nat} (h : k < n) : hz (someL a n) k = ((a + k : Nat) : Int) := by simp [hz, someL, h]
theorem goal_pos (r k : Int) : 1 ≤ goalR r k := by
  unfold goalR
  repeat' split
  all_goals omega
theorem slots_facts {zs : List Int} (hh : heapR zs = true) {b : BkOf zs.length} (hb : b ∈ blocks zs) :
    shapeR zs ((b.1.at' : Nat) : Int) = true ∧ (slotsL zs ((b.1.at' : Nat) : Int)).length ≤ zs.length ∧ ∀ k, k < (slotsL zs ((b.1.at' : Nat) : Int)).length → ∃ p : Nat, hz (slotsL zs ((b.1.at' : Nat) : Int)) k = p ∧ p < zs.length ∧ vOk (hz zs p) = true ∧ (4 ≤ hz zs p % 8 → 1 ≤ kindAt zs (hz zs p / 8)) := by
  have hok := heapR_slab hh
  have ha := atB_mem hok hb
  have hr := heapR_blk hh hb
  have hlen := (slabOk_iff.1 hok).1
  have hble := b.2.2.1
  have hk5 := b.2.2.2
  unfold shapeR slotsL
  rw [ha]
  simp only
  refine ⟨hr, by have := slL_len b.1.at' b.1.kind b.1.size; omega, fun k hk => ?_⟩
  have hoff : 1 ≤ slOff b.1.kind := by unfold slOff; split <;> omega
  rw [slL, someL_len] at hk
  rw [slL, someL_at hk]
  refine ⟨_, rfl, by omega, ?_⟩
  unfold blkR at hr
  rw [Bool.and_eq_true, wordsR_iff] at hr
  have hw := hr.2 (slOff b.1.kind + k) (by omega) (by omega)
  have hrole := role_value hk5 (hz zs (b.1.at' + 1)) (k := slOff b.1.kind + k) (by omega) (by omega)
  rw [show decide (slOff b.1.kind ≤ slOff b.1.kind + k ∧ slOff b.1.kind + k < slOff b.1.kind + slMany b.1.kind) = true by simp; omega] at hrole
  simp only [decide_eq_true_eq] at hrole
  rw [show b.1.at' + (slOff b.1.kind + k) = b.1.at' + slOff b.1.kind + k by omega] at hw
  obtain ⟨v, hv⟩ : ∃ v, hz zs (b.1.at' + slOff b.1.kind + k) = v := ⟨_, rfl⟩
  rw [hv] at hw ⊢
  unfold wordR at hw
  rw [if_neg (by omega), if_neg (by omega), if_neg (by omega), if_neg (by omega), if_neg (by omega)] at hw
  unfold valR at hw
  simp only [Bool.and_eq_true, Bool.or_eq_true, Bool.not_eq_true', decide_eq_true_eq, decide_eq_false_iff_not] at hw
  refine ⟨hw.1.1, fun h4 => ?_⟩
  rcases hw.2 with h | h
  · omega
  · rw [h]
    exact goal_pos _ _
end Go.Proofs.YtgempjjnfpmndaaGreatDoor
