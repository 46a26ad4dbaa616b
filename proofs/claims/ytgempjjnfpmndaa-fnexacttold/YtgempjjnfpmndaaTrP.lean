/-
  What is turned in memory when rows of one's own are marked: blocks between two numbers alone, and in them cells that are no slices alone.
-/
import Derived.Test.YtgempjjnfpmndaaSlabI
namespace Go.Proofs.Ytgempjjnfpmndaa
open Go.RowKit
set_option linter.unusedVariables false
set_option linter.unusedSimpArgs false
def NoSl (v : Value) : Prop := ∀ a l c, v ≠ .slice a l c
structure Tr (lo hi : Nat) (a b : World) : Prop where
  os : b.os = a.os
  tape : b.tape = a.tape
  output : b.output = a.output
  size : a.heap.size ≤ b.heap.size
  block : ∀ j, j < a.heap.size → ¬ (lo ≤ j ∧ j < hi) → b.heap[j]? = a.heap[j]?
  shp : ∀ g t cs, Cells a g t cs → ∃ cs', Cells b g t cs' ∧ cs'.size = cs.size ∧ ∀ (i : Nat) (v : Value), cs[i]? = some v → ∃ v', cs'[i]? = some v' ∧ (NoSl v → NoSl v') ∧ (¬ NoSl v → v' = v)
theorem Tr.refl (lo hi : Nat) (a : World) : Tr lo hi a a := ⟨rfl, rfl, rfl, Nat.le_refl _, fun _ _ _ => rfl, fun g t cs h => ⟨cs, h, rfl, fun i v hv => ⟨v, hv, id, fun _ => rfl⟩⟩⟩
theorem Tr.trans {lo hi : Nat} {a b c : World} (h : Tr lo hi a b) (k : Tr lo hi b c) : Tr lo hi a c := by
  refine ⟨k.os.trans h.os, k.tape.trans h.tape, k.output.trans h.output, Nat.le_trans h.size k.size, fun j hj hn => (k.block j (Nat.lt_of_lt_of_le hj h.size) hn).trans (h.block j hj hn), fun g t cs hc => ?_⟩
  obtain ⟨c1, h1, s1, e1⟩ := h.shp g t cs hc
  obtain ⟨c2, h2, s2, e2⟩ := k.shp g t c1 h1
  refine ⟨c2, h2, s2.trans s1, fun i v hv => ?_⟩
  obtain ⟨v1, hv1, n1, y1⟩ := e1 i v hv
  obtain ⟨v2, hv2, n2, y2⟩ := e2 i v1 hv1
  refine ⟨v2, hv2, fun h => n2 (n1 h), fun h => ?_⟩
  have := y1 h
  subst this
  exact y2 h
theorem Tr.of {lo hi : Nat} {a b : World} (h : Kept a b) : Tr lo hi a b :=
  ⟨h.os, h.tape, h.output, h.size, fun j hj _ => h.block j hj, fun g t cs hc => ⟨cs, hc.kept h, rfl, fun i v hv => ⟨v, hv, id, fun _ => rfl⟩⟩⟩
theorem Tr.set {lo hi : Nat} {a b : World} (h : Tr lo hi a b) {g i : Nat} {v0 v : Value} (hg : lo ≤ g ∧ g < hi) (h0 : b.cell? ⟨g, i, none⟩ = some v0) (n0 : NoSl v0) (hv : NoSl v) : Tr lo hi a (b.setCell ⟨g, i, none⟩ v) := by
  refine h.trans ⟨rfl, rfl, rfl, by simp [World.setCell], fun j hj hn => Below.heap_setCell _ _ _ _ (fun e => hn (by simp at e; omega)), fun g' t cs hc => ?_⟩
  by_cases e : g' = g
  · subst e
    refine ⟨_, hc.set i v, by simp, fun k u hu => ?_⟩
    by_cases ek : k = i
    · subst ek
      rw [hc.cell, hu] at h0
      injection h0 with h0
      subst h0
      have hk : k < cs.size := (Array.getElem?_eq_some_iff.1 hu).1
      exact ⟨v, by simp [Array.getElem?_setIfInBounds, hk], fun _ => hv, fun h => absurd n0 h⟩
    · exact ⟨u, by rw [Array.getElem?_setIfInBounds_ne (by omega)]; exact hu, id, fun _ => rfl⟩
  · exact ⟨cs, hc.other (p := ⟨g, i, none⟩) e _, rfl, fun k u hu => ⟨u, hu, id, fun _ => rfl⟩⟩
theorem Tr.kept {lo hi : Nat} {w a b : World} (k : Kept w a) (h : Tr lo hi a b) (hl : w.heap.size ≤ lo) : Kept w b := by
  refine Below.trans k ⟨h.os, h.tape, h.output, by have := k.size; have := h.size; omega, fun j hj => h.block j (Nat.lt_of_lt_of_le hj k.size) (by omega)⟩
/-- A row of n cells that are no slices. -/
def WrI (W : World) (g : Nat) (t : TypeId) (n : Nat) : Prop := ∃ cs, Cells W g t cs ∧ cs.size = n ∧ ∀ (i : Nat) (v : Value), cs[i]? = some v → NoSl v
theorem WrI.tr {lo hi : Nat} {a b : World} {g : Nat} {t : TypeId} {n : Nat} (h : WrI a g t n) (k : Tr lo hi a b) : WrI b g t n := by
  obtain ⟨cs, h1, h2, h3⟩ := h
  obtain ⟨c2, k1, k2, k3⟩ := k.shp g t cs h1
  refine ⟨c2, k1, k2.trans h2, fun i v hv => ?_⟩
  have hi : i < cs.size := by rw [← k2]; exact (Array.getElem?_eq_some_iff.1 hv).1
  obtain ⟨v', e, n1, _⟩ := k3 i cs[i] (Array.getElem?_eq_getElem hi)
  rw [hv] at e
  injection e with e
  subst e
  exact n1 (h3 i _ (Array.getElem?_eq_getElem hi))
theorem WrI.at' {W : World} {g : Nat} {t : TypeId} {n i : Nat} (h : WrI W g t n) (hi : i < n) : ∃ v, W.cell? ⟨g, i, none⟩ = some v ∧ NoSl v ∧ W.frozen? ⟨g, i, none⟩ = false := by
  obtain ⟨cs, h1, h2, h3⟩ := h
  exact ⟨cs[i], by rw [h1.cell, Array.getElem?_eq_getElem (by omega)], h3 i _ (Array.getElem?_eq_getElem (by omega)), h1.frozen i⟩
theorem noSl_int (k : IntKind) (z : Int) : NoSl (.int k z) := fun _ _ _ h => by cases h
theorem noSl_str (s : ByteArray) : NoSl (.string s) := fun _ _ _ h => by cases h
end Go.Proofs.Ytgempjjnfpmndaa
