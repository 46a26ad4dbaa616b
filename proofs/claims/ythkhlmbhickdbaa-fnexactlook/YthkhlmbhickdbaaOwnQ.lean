/-
  A slab's words that the answer owns: read, kept, marked.
-/
import Derived.Test.YthkhlmbhickdbaaSlabK
import Derived.Test.YthkhlmbhickdbaaMknA
namespace Go.Proofs.Ythkhlmbhickdbaa
open Go.RowKit

theorem OwnR.ints {W : World} {base : Nat} {v : Value} {zs : List Int} (h : OwnR W base v zs) : ∃ ao cap, v = .slice ao zs.length cap ∧ Ints W ao zs := by
  rcases h with ⟨rfl, rfl⟩ | ⟨g, cap, rfl, _, _, hR⟩
  · exact ⟨none, 0, rfl, ⟨by simp, .inl rfl⟩⟩
  · exact ⟨_, cap, rfl, hR.ints⟩
theorem OwnR.block {W : World} {base : Nat} {v : Value} {zs : List Int} (h : OwnR W base v zs) : ∀ j, v.ownBlock = some j → base ≤ j ∧ j < W.heap.size := by
  rcases h with ⟨rfl, rfl⟩ | ⟨g, cap, rfl, hb, _, hR⟩
  · intro j hj; simp [Value.ownBlock] at hj
  · intro j hj; simp [Value.ownBlock] at hj; subst hj; exact ⟨hb, hR.lt⟩
theorem OwnR.grown {W W' : World} {base : Nat} {v : Value} {zs : List Int} {row : Option Nat} (h : OwnR W base v zs) (hg : W.grownBy W' row) (hne : ∀ k, row = some k → ∀ j, v.ownBlock = some j → j ≠ k) : OwnR W' base v zs := by
  rcases h with ⟨rfl, rfl⟩ | ⟨g, cap, rfl, hb, hc, hR⟩
  · exact .inl ⟨rfl, rfl⟩
  · exact .inr ⟨g, cap, rfl, hb, hc, hR.grown hg (fun e => hne g e.symm g (by simp [Value.ownBlock]) rfl)⟩
theorem OwnR.kept {W W' : World} {base : Nat} {v : Value} {zs : List Int} (h : OwnR W base v zs) (hk : Kept W W') : OwnR W' base v zs := h.grown (row := none) hk.grown (fun _ h => by cases h)
theorem markOwn_ok (w : World) (base : Nat) (v : Value) (zs : List Int) (hO : OwnR w base v zs) (hl : zs.length ≤ 1048576) :
    Calls Try.prog 14 #[.agg #[v], .int .i64 1] w fun e w' => e = .returned (.int .i64 ((zs.length : Int) + 1)) ∧ (∃ ao cap, v = .slice ao zs.length cap ∧ Ints w' ao (marks zs.length)) ∧ w.grownBy w' v.ownBlock := by
  rcases hO with ⟨rfl, rfl⟩ | ⟨g, cap, rfl, _, _, hR⟩
  · refine (markSlab_nil w none 0).mono ?_
    rintro e w' ⟨rfl, hk⟩
    exact ⟨rfl, ⟨none, 0, rfl, ⟨by simp [marks], .inl rfl⟩⟩, hk.grown⟩
  · refine (markSlab_ok w g cap zs hR hl).mono ?_
    rintro e w' ⟨rfl, hR', hG⟩
    exact ⟨rfl, ⟨_, cap, rfl, hR'.ints⟩, hG⟩
end Go.Proofs.Ythkhlmbhickdbaa
