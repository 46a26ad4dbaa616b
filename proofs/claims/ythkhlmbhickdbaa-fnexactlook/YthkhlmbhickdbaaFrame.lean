/-
  How an argument of the type Slab, and one of integers, is read: the words that it holds, each within 64 bits; and what a law owes when nothing that lay before the call was turned.
-/
import Derived.Test.YthkhlmbhickdbaaRows
import Derived.Test.YthkhlmbhickdbaaSlabI
import Derived.WalkKit
import Derived.ProofKit
import Derived.OpenShut
import Derived.Carry
namespace Go.Proofs.Ythkhlmbhickdbaa
open Go.ChangeShapes Go.WideShapes Go.ChangeAt Go.RowKit

theorem laid : laidOutB Try.prog = true := by kernel_rfl
theorem cellsI : Try.prog.cellsOf 3 = 1 := by kernel_rfl
theorem cellsS : Try.prog.cellsOf 22 = 1 := by kernel_rfl
theorem cellsSlab : Try.prog.cellsOf 24 = 1 := by kernel_rfl

theorem Ints.of {H : Type} {enc : TypeId × Value → H} {W : World} {n : Nat} {v : Value} {y : DataW H × List MemPlace} (h : DataW.trod enc Try.prog W 0 (fun _ => true) true n 22 [v] = some y) :
    ∃ (ao : Option Addr) (cap : Nat) (zs : List Int), v = .slice ao zs.length cap ∧ zs.length ≤ cap ∧ cap ≤ maxLen ∧ Ints W ao zs := by
  rcases open_ints Try.underlying22 Try.underlying3 cellsI h with ⟨hcs, _⟩ | ⟨a, len, cap, zs, hcs, _, hl, hm, hz, hx, hcell, hwz⟩
  · simp at hcs
    subst hcs
    exact ⟨none, 0, [], rfl, Nat.le_refl _, Nat.zero_le _, by simp, .inl rfl⟩
  · simp at hcs
    subst hcs
    simp only [if_true] at hz
    have hlen : (zs.take len).length = len := by simp [hz]; omega
    refine ⟨some a, cap, zs.take len, by rw [hlen], by omega, hm, fun z h => ?_, ?_⟩
    · have := bounds_i64 (hwz z (List.mem_of_mem_take h)); exact this
    · by_cases h0 : len = 0
      · exact .inl (by simp [h0])
      · obtain ⟨b, off, spot⟩ := a
        have hspot : spot = none := by simpa [Addr.add] using World.cell?_spot (hcell 0 (by omega))
        subst hspot
        refine .inr ⟨b, off, rfl, fun j hj => ?_⟩
        rw [hlen] at hj
        have := hcell j (by omega)
        simp only [List.getD_eq_getElem?_getD] at this
        rw [← add_plain, this, hz_take hj]

set_option maxRecDepth 100000 in
theorem open_slab {H : Type} {enc : TypeId × Value → H} {W : World} {base : Nat} {v : Value} {d : DataW H} {p : List MemPlace} (hv : Value.okWide Try.prog W .any base 24 v) (h : DataW.Trod enc Try.prog W 0 (fun _ => true) true 24 v d p) :
    ∃ (ao : Option Addr) (cap : Nat) (zs : List Int), v = .agg #[.slice ao zs.length cap] ∧ zs.length ≤ cap ∧ cap ≤ maxLen ∧ Ints W ao zs := by
  obtain ⟨cs, rfl, hsz⟩ := okWide_struct Try.underlying24 hv
  obtain ⟨c0, rfl⟩ : ∃ c0, cs = #[c0] := by
    have h1 : cs.size = 1 := hsz.trans cellsSlab
    obtain ⟨l⟩ := cs
    match l, h1 with
    | [c0], _ => exact ⟨c0, rfl⟩
  obtain ⟨fuel, hf⟩ := h
  obtain ⟨y0, n, _, _, h0⟩ := trod_struct1 Try.underlying24 hf
  obtain ⟨ao, cap, zs, rfl, h1, h2, h3⟩ := Ints.of (v := c0) (by simpa [Value.cells, cellsS] using h0)
  exact ⟨ao, cap, zs, rfl, h1, h2, h3⟩

end Go.Proofs.Ythkhlmbhickdbaa
