/-
  The contract of impl.Blocks: the places of the blocks, in a row of its own.
-/
import Derived.Test.YtgnpllpinfhccaaGreatDoorZSlabV
import Derived.Test.YtgnpllpinfhccaaGreatDoorZHelpL
namespace Go.Proofs.YtgnpllpinfhccaaGreatDoor
open Go.RowKit Go.Shelf
attribute [local go_sem] Oper.semAt_some

def OwnL (W : World) (base : Nat) (v : Value) (zs : List Int) : Prop :=
  (∀ z ∈ zs, -9223372036854775808 ≤ z ∧ z ≤ 9223372036854775807) ∧ W.ownsRow base 3 1 v zs.length (zs.map (Value.int .i64))
theorem OwnL.cases {W : World} {base : Nat} {v : Value} {zs : List Int} (h : OwnL W base v zs) : (v = .slice none 0 0 ∧ zs = []) ∨ ∃ g cap, v = .slice (some ⟨g, 0, none⟩) zs.length cap ∧ base ≤ g ∧ zs.length ≤ cap ∧ cap ≤ maxLen ∧ Row W g zs := by
  rcases h.2.2 with ⟨e, hn⟩ | ⟨g, cap, cur, rfl, hb, hg, h1, h2, _, _⟩
  · exact .inl ⟨e, List.length_eq_zero_iff.1 hn⟩
  · exact .inr ⟨g, cap, rfl, hb, h1, h2, (Row.of_owns h.2 h.1).1⟩
theorem OwnL.ints {W : World} {base : Nat} {v : Value} {zs : List Int} (h : OwnL W base v zs) : ∃ ao cap, v = .slice ao zs.length cap ∧ Ints W ao zs := by
  rcases h.cases with ⟨rfl, rfl⟩ | ⟨g, cap, rfl, _, _, _, hR⟩
  · exact ⟨none, 0, rfl, by simp, .inl rfl⟩
  · exact ⟨_, cap, rfl, hR.ints⟩

def atsOf {L : Nat} (pre : List (BkOf L)) : List Int := pre.map (fun b => ((b.1.at' : Nat) : Int))
theorem atsOf_snoc {L : Nat} (pre : List (BkOf L)) (x : BkOf L) : atsOf (pre ++ [x]) = atsOf pre ++ [((x.1.at' : Nat) : Int)] := by simp [atsOf]
theorem atsOf_bd {L : Nat} (hL : L * 8 ≤ 140737488351232) (pre : List (BkOf L)) : ∀ z ∈ atsOf pre, -9223372036854775808 ≤ z ∧ z ≤ 9223372036854775807 := by
  intro z hz
  obtain ⟨b, _, rfl⟩ := List.mem_map.1 hz
  have := b.2
  constructor <;> omega
theorem atsOf_len {L : Nat} (pre : List (BkOf L)) : (atsOf pre).length = pre.length := by simp [atsOf]

theorem ownsRow_base {W : World} {a b : Nat} {e : TypeId} {size : Nat} {v : Value} {n : Nat} {xs : List Value} (h : W.ownsRow b e size v n xs) (hab : a ≤ b) : W.ownsRow a e size v n xs := by
  refine ⟨h.1, ?_⟩
  rcases h.2 with h2 | ⟨g, cap, cur, hv, hg, r⟩
  · exact .inl h2
  · exact .inr ⟨g, cap, cur, hv, Nat.le_trans hab hg, r⟩
end Go.Proofs.YtgnpllpinfhccaaGreatDoor
