/-
  The contract of chapter 8's model TriOk.
-/
import Derived.Test.YtieapcobidejpaaGreatDoorZMrkJ
namespace Go.Proofs.YtieapcobidejpaaGreatDoor
open Go.RowKit
attribute [local go_sem] Plain.and7

/-- A value leads to nothing, or to one that was met. -/
def metV (gs bs : List Int) (v : Int) : Bool := decide (blkV v < 0) || decide (blkV v ∈ gs) || decide (blkV v ∈ bs)
def triB (zs gs bs : List Int) (a : Int) : Bool := (slotV zs a).all (metV gs bs)
/-- What TriOk tells. -/
def triR (zs : List Int) (ph : Int) (gs bs : List Int) (at' : Int) : Bool := markR zs ph gs bs at' && (!decide (ph = 1) || bs.all (triB zs gs bs))
theorem tri_no {zs gs bs l : List Int} {k : Nat} (hk : k < l.length) (h : triB zs gs bs (hz l k) = false) : l.all (triB zs gs bs) = false := by
  cases hq : l.all (triB zs gs bs) with
  | false => rfl
  | true =>
    have := List.all_eq_true.1 hq _ (hz_mem hk)
    rw [h] at this
    cases this
theorem tri_yes {zs gs bs l : List Int} (h : ∀ j, j < l.length → triB zs gs bs (hz l j) = true) : l.all (triB zs gs bs) = true := by
  rw [List.all_eq_true]
  intro x hx
  obtain ⟨j, hj, e⟩ := List.getElem_of_mem hx
  have := h j hj
  rw [hz_get hj, e] at this
  exact this
theorem metV_no {gs bs l : List Int} {k : Nat} (hk : k < l.length) (h : metV gs bs (hz l k) = false) : l.all (metV gs bs) = false := by
  cases hq : l.all (metV gs bs) with
  | false => rfl
  | true =>
    have := List.all_eq_true.1 hq _ (hz_mem hk)
    rw [h] at this
    cases this
theorem metV_yes {gs bs l : List Int} (h : ∀ j, j < l.length → metV gs bs (hz l j) = true) : l.all (metV gs bs) = true := by
  rw [List.all_eq_true]
  intro x hx
  obtain ⟨j, hj, e⟩ := List.getElem_of_mem hx
  have := h j hj
  rw [hz_get hj, e] at this
  exact this
theorem markR_met {zs gs bs : List Int} {ph at' : Int} (h : markR zs ph gs bs at' = true) : slabOk zs = true ∧ Met zs gs ∧ Met zs bs ∧ (0 ≤ ph ∧ ph ≤ 2) := by
  unfold markR at h
  simp only [Bool.and_eq_true, decide_eq_true_eq] at h
  exact ⟨h.1.1.1.1.1, places_iff.1 h.1.1.1.2, places_iff.1 h.1.1.2, h.1.1.1.1.2⟩
theorem markR_heap {zs gs bs : List Int} {at' : Int} (h : markR zs 1 gs bs at' = true) : heapR zs = true := by
  unfold markR at h
  simp at h
  exact h.2.2
end Go.Proofs.YtieapcobidejpaaGreatDoor
