/-
  Facts on lists: places at which a block begins.
-/
import Derived.Test.YthloammkgogceaaSlabX
namespace Go.Proofs.Ythloammkgogceaa

/-- A place at which a block begins, or the end. -/
def Bnd (zs : List Int) (k : Nat) : Prop := ∃ p r, Seg zs 0 p k ∧ Seg zs k r zs.length
theorem Bnd.zero {zs : List Int} (h : slabOk zs = true) : Bnd zs 0 := ⟨[], _, .nil 0, Seg.whole h⟩
theorem Bnd.le {zs : List Int} {k : Nat} (h : Bnd zs k) : k ≤ zs.length := by
  obtain ⟨_, _, _, h2⟩ := h
  exact h2.le
theorem Bnd.good {zs : List Int} {k : Nat} (h : Bnd zs k) (hk : k < zs.length) : Good zs k ∧ Bnd zs (k + sz zs k) := by
  obtain ⟨p, r, h1, h2⟩ := h
  cases r with
  | nil => have := h2.endN; omega
  | cons x r =>
    obtain ⟨_, hg, h3⟩ := h2.head
    exact ⟨hg, _, r, h1.app (Seg.cons hg (.nil _)), h3⟩
theorem Bnd.mem {zs : List Int} {k : Nat} (h : Bnd zs k) (hk : k < zs.length) (hl : zs.length ≤ 2000) : (⟨k, sz zs k, kd zs k⟩ : Bk) ∈ raw (blocks zs) := by
  obtain ⟨p, r, h1, h2⟩ := h
  rw [((h1.app h2).slab hl).2]
  cases r with
  | nil => have := h2.endN; omega
  | cons x r =>
    obtain ⟨e, _, _⟩ := h2.head
    rw [← e]
    simp
end Go.Proofs.Ythloammkgogceaa
