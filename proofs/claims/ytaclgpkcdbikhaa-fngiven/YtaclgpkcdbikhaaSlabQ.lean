/-
  Take of the program and of its model together: they answer the same, each a slab of its own.
-/
import Derived.Test.YtaclgpkcdbikhaaSlabO
namespace Go.Proofs.Ytaclgpkcdbikhaa
open Go.RowKit

theorem OwnR.ints {W : World} {base : Nat} {v : Value} {zs : List Int} (h : OwnR W base v zs) : ∃ ao cap, v = .slice ao zs.length cap ∧ Ints W ao zs := by
  rcases h with ⟨rfl, rfl⟩ | ⟨g, cap, rfl, _, _, hR⟩
  · exact ⟨none, 0, rfl, ⟨by simp, .inl rfl⟩⟩
  · exact ⟨_, cap, rfl, hR.ints⟩
theorem OwnR.block {W : World} {base : Nat} {v : Value} {zs : List Int} (h : OwnR W base v zs) : ∀ j, v.ownBlock = some j → base ≤ j ∧ j < W.heap.size := by
  rcases h with ⟨rfl, rfl⟩ | ⟨g, cap, rfl, hb, _, hR⟩
  · intro j hj; simp [Value.ownBlock] at hj
  · intro j hj; simp [Value.ownBlock] at hj; subst hj; exact ⟨hb, hR.lt⟩
theorem OwnR.grown {W W' : World} {base : Nat} {v : Value} {zs : List Int} {row : Option Nat} (h : OwnR W base v zs) (hg : W.grownBy W' row) (hne : ∀ k, row = some k → ∀ j, v.ownBlock = some j → j ≠ k) : OwnR W' base v zs := by
  rcases h with ⟨rfl, rfl⟩ | ⟨g, cap, rfl, hb, hc, hR⟩
  · exact .inl ⟨rfl, rfl⟩
  · exact .inr ⟨g, cap, rfl, hb, hc, hR.grown hg (fun e => hne g e.symm g (by simp [Value.ownBlock]) rfl)⟩
theorem OwnR.kept {W W' : World} {base : Nat} {v : Value} {zs : List Int} (h : OwnR W base v zs) (hk : Kept W W') : OwnR W' base v zs := h.grown (row := none) hk.grown (fun _ h => by cases h)
theorem markOwn_ok (w : World) (base : Nat) (v : Value) (zs : List Int) (hO : OwnR w base v zs) (hl : zs.length ≤ 1048576) :
    Calls Try.prog 28 #[.agg #[v], .int .i64 1] w fun e w' => e = .returned (.int .i64 ((zs.length : Int) + 1)) ∧ (∃ ao cap, v = .slice ao zs.length cap ∧ Ints w' ao (marks zs.length)) ∧ w.grownBy w' v.ownBlock := by
  rcases hO with ⟨rfl, rfl⟩ | ⟨g, cap, rfl, _, _, hR⟩
  · refine (markSlab_nil w none 0).mono ?_
    rintro e w' ⟨rfl, hk⟩
    exact ⟨rfl, ⟨none, 0, rfl, ⟨by simp [marks], .inl rfl⟩⟩, hk.grown⟩
  · refine (markSlab_ok w g cap zs hR hl).mono ?_
    rintro e w' ⟨rfl, hR', hG⟩
    exact ⟨rfl, ⟨_, cap, rfl, hR'.ints⟩, hG⟩
theorem Take_both (zs : List Int) (kind n : Int) (hn : n ≤ 9223372036854775807) (hl : zs.length ≤ 1048576) : ∃ (rs : List Int) (at' : Int) (ok : Bool), rs.length ≤ 1048576 ∧
    (∀ (w : World) (ao : Option Addr) (cap : Nat), Ints w ao zs → Calls Try.prog 8 #[.agg #[.slice ao zs.length cap], .int .i64 kind, .int .i64 n] w fun e w' => ∃ v, e = .returned (.tuple #[.agg #[v], .int .i64 at', .bool ok]) ∧ OwnR w' w.heap.size v rs ∧ Kept w w') ∧
    (∀ (w : World) (ao : Option Addr) (cap : Nat), Ints w ao zs → Calls Try.prog 9 #[.agg #[.slice ao zs.length cap], .int .i64 kind, .int .i64 n] w fun e w' => ∃ v, e = .returned (.tuple #[.agg #[v], .int .i64 at', .bool ok]) ∧ OwnR w' w.heap.size v rs ∧ Kept w w') := by
  cases hok : slabOk zs with
  | false =>
    refine ⟨[], 0, false, by simp, fun w ao cap hI => ?_, fun w ao cap hI => ?_⟩
    · refine (impl_Take_bad w ao cap zs kind n hI hl hok).mono ?_
      rintro e w' ⟨rfl, hk⟩
      exact ⟨_, rfl, .inl ⟨rfl, rfl⟩, hk⟩
    · refine (spec_Take_bad w ao cap zs kind n hI hl hok).mono ?_
      rintro e w' ⟨rfl, hk⟩
      exact ⟨_, rfl, .inl ⟨rfl, rfl⟩, hk⟩
  | true =>
    by_cases hA : 1 ≤ kind ∧ kind ≤ 5 ∧ 2 ≤ n
    · obtain ⟨k, rfl⟩ : ∃ k : Nat, kind = k := ⟨kind.toNat, by omega⟩
      obtain ⟨m, rfl⟩ : ∃ m : Nat, n = m := ⟨n.toNat, by omega⟩
      cases hb : ffB zs m with
      | none => exact ⟨zs, 0, false, hl, fun w ao cap hI => impl_Take_no w ao cap zs k m hI hl hok (.inr hb), fun w ao cap hI => (spec_Take_do w ao cap zs k m hI hl hok (by omega) (by omega) (by omega) hn zs 0 false (.inr ⟨hb, rfl, rfl, rfl⟩)).mono (fun _ _ ⟨v, h1, h2, h3, _⟩ => ⟨v, h1, h2, h3⟩)⟩
      | some b =>
        refine ⟨takeL zs b.1 k m, (b.1.at' : Nat), true, ?_, fun w ao cap hI => impl_Take_yes w ao cap zs k m b hI hl hok (by omega) (by omega) (by omega) hb, fun w ao cap hI => (spec_Take_do w ao cap zs k m hI hl hok (by omega) (by omega) (by omega) hn _ _ true (.inl ⟨b, hb, rfl, rfl, rfl⟩)).mono (fun _ _ ⟨v, h1, h2, h3, _⟩ => ⟨v, h1, h2, h3⟩)⟩
        have : (takeL zs b.1 k m).length = zs.length := by unfold takeL; split <;> simp [layL_len]
        omega
    · exact ⟨zs, 0, false, hl, fun w ao cap hI => impl_Take_no w ao cap zs kind n hI hl hok (.inl hA), fun w ao cap hI => (spec_Take_arg w ao cap zs kind n hI hl hok hA).mono (fun _ _ ⟨v, h1, h2, h3, _⟩ => ⟨v, h1, h2, h3⟩)⟩
end Go.Proofs.Ytaclgpkcdbikhaa
