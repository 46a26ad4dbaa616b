/-
  Lists of integers of one's own: what a slice holds that lies in memory that is new.
-/
import Derived.Test.YtpbafjcoomfooaaGreatHelpL
namespace Go.Proofs.YtpbafjcoomfooaaGreat
open Go.RowKit
/-- v is a list of integers of the call's own (nil where it is empty, or not), in a block from base on. -/
def OwnL (W : World) (base : Nat) (v : Value) (zs : List Int) : Prop :=
  (∀ z ∈ zs, -9223372036854775808 ≤ z ∧ z ≤ 9223372036854775807) ∧ W.ownsRow base 3 1 v zs.length (zs.map (Value.int .i64))
theorem OwnL.cases {W : World} {base : Nat} {v : Value} {zs : List Int} (h : OwnL W base v zs) : (v = .slice none 0 0 ∧ zs = []) ∨ ∃ g cap, v = .slice (some ⟨g, 0, none⟩) zs.length cap ∧ base ≤ g ∧ zs.length ≤ cap ∧ cap ≤ maxLen ∧ Row W g zs := by
  rcases h.2.2 with ⟨e, hn⟩ | ⟨g, cap, cur, rfl, hb, hg, h1, h2, _, _⟩
  · exact .inl ⟨e, List.length_eq_zero_iff.1 hn⟩
  · exact .inr ⟨g, cap, rfl, hb, h1, h2, (Row.of_owns h.2 h.1).1⟩
theorem OwnL.ints {W : World} {base : Nat} {v : Value} {zs : List Int} (h : OwnL W base v zs) : ∃ ao cap, v = .slice ao zs.length cap ∧ Ints W ao zs := by
  rcases h.cases with ⟨rfl, rfl⟩ | ⟨g, cap, rfl, _, _, _, hR⟩
  · exact ⟨none, 0, rfl, by simp, .inl rfl⟩
  · exact ⟨_, cap, rfl, hR.ints⟩

theorem ownsRow_base {W : World} {a b : Nat} {e : TypeId} {size : Nat} {v : Value} {n : Nat} {xs : List Value} (h : W.ownsRow b e size v n xs) (hab : a ≤ b) : W.ownsRow a e size v n xs := by
  refine ⟨h.1, ?_⟩
  rcases h.2 with h2 | ⟨g, cap, cur, hv, hg, r⟩
  · exact .inl h2
  · exact .inr ⟨g, cap, cur, hv, Nat.le_trans hab hg, r⟩
end Go.Proofs.YtpbafjcoomfooaaGreat
