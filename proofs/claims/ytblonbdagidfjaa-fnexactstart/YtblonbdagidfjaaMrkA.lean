/-
  The contracts of chapter 8's models l8Places and l8Insert.
-/
import Derived.Test.YtblonbdagidfjaaRchC
import Derived.Laws.AppendOwnNone
namespace Go.Proofs.Ytblonbdagidfjaa
open Go.RowKit
attribute [local go_sem] Plain.and7

def plAt (zs l : List Int) (i : Nat) : Bool := decide (1 ≤ kindAt zs (hz l i)) && !decide (hz l i ∈ l.take i)
/-- Places of blocks that are not free, none twice. -/
def placesR (zs l : List Int) : Bool := allR (plAt zs l) l.length
theorem hz_get {l : List Int} {i : Nat} (h : i < l.length) : hz l i = l[i] := by unfold hz; rw [List.getElem?_eq_getElem h]; rfl
theorem places_iff {zs l : List Int} : placesR zs l = true ↔ Met zs l := by
  unfold placesR
  rw [allR_iff]
  constructor
  · intro h
    refine ⟨List.pairwise_iff_getElem.2 fun i j hi hj hij e => ?_, fun a ha => ?_⟩
    · have := h j hj
      unfold plAt at this
      simp only [Bool.and_eq_true, Bool.not_eq_true', decide_eq_false_iff_not] at this
      refine this.2 ?_
      rw [hz_get hj, ← e]
      exact List.mem_take_iff_getElem.2 ⟨i, by omega, rfl⟩
    · obtain ⟨i, hi, e⟩ := List.getElem_of_mem ha
      have := h i hi
      unfold plAt at this
      simp only [Bool.and_eq_true, decide_eq_true_eq] at this
      rw [hz_get hi, e] at this
      exact this.1
  · intro h i hi
    unfold plAt
    simp only [Bool.and_eq_true, Bool.not_eq_true', decide_eq_true_eq, decide_eq_false_iff_not]
    refine ⟨h.2 _ (hz_mem hi), fun hm => ?_⟩
    obtain ⟨j, hj, e⟩ := List.mem_take_iff_getElem.1 hm
    rw [hz_get hi] at e
    have := List.pairwise_iff_getElem.1 h.1 j i (by omega) hi (by omega)
    exact this e
theorem isAt_kind {zs : List Int} {x : Int} (h : isAt zs x = true) : ∃ p : Nat, x = p ∧ p < zs.length ∧ kindAt zs x = hz zs p % 8 := by
  unfold isAt at h
  cases hb : atB zs x with
  | none => rw [hb] at h; cases h
  | some b =>
    obtain ⟨_, e, hg, _, hk, _⟩ := atB_some hb
    refine ⟨b.1.at', e.symm, hg.lt, ?_⟩
    unfold kindAt
    rw [hb, ← kdI, ← hk]
theorem isAt_no {zs : List Int} {x : Int} (h : isAt zs x = false) : ¬ 1 ≤ kindAt zs x := by
  unfold isAt at h
  cases hb : atB zs x with
  | none => unfold kindAt; rw [hb]; simp
  | some b => rw [hb] at h; cases h
theorem placesR_no {zs l : List Int} {k : Nat} (hk : k < l.length) (h : plAt zs l k = false) : placesR zs l = false := by
  cases hp : placesR zs l with
  | false => rfl
  | true =>
    have := allR_iff.1 hp k hk
    rw [h] at this
    cases this
end Go.Proofs.Ytblonbdagidfjaa
