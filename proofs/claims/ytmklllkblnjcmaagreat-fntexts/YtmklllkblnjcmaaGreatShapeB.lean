/-
  The contracts of Slots, the program's and its model's: the places of the words of a block that are values.
-/
import Derived.Test.YtmklllkblnjcmaaGreatShapeA
import Derived.Test.YtmklllkblnjcmaaGreatSlabR
namespace Go.Proofs.YtmklllkblnjcmaaGreat
open Go.RowKit
attribute [local go_sem] Plain.and7 mFree mText mObj mCell mFun mScope

theorem _root_.Go.World.ownsRow.kept4 {W W' : World} {base : Nat} {e : TypeId} {size : Nat} {v : Value} {n : Nat} {xs : List Value} (h : W.ownsRow base e size v n xs) (hk : Kept W W') : W'.ownsRow base e size v n xs := by
  obtain ⟨h1, h2⟩ := h
  refine ⟨h1, ?_⟩
  rcases h2 with h2 | ⟨g, cap, cur, e1, hb, hc, h3⟩
  · exact .inl h2
  · exact .inr ⟨g, cap, cur, e1, hb, (hk.block g (Array.getElem?_eq_some_iff.1 hc).1).trans hc, h3⟩
/-- So many places from one on. -/
def someL (a n : Nat) : List Int := (List.range n).map (fun i => ((a + i : Nat) : Int))
theorem someL_len (a n : Nat) : (someL a n).length = n := by simp [someL]
theorem someL_snoc (a n : Nat) : someL a (n + 1) = someL a n ++ [((a + n : Nat) : Int)] := by simp [someL, List.range_succ]
theorem someL_bd {a n : Nat} (h : a + n ≤ 9223372036854775807) : ∀ z ∈ someL a n, -9223372036854775808 ≤ z ∧ z ≤ 9223372036854775807 := by
  intro z hz
  obtain ⟨i, hi, rfl⟩ := List.mem_map.1 hz
  have := List.mem_range.1 hi
  omega
/-- Where the values of a block begin, and how many there are at most. -/
def slOff (kind : Nat) : Nat := if kind = 4 then 2 else 1
def slMany (kind : Nat) : Nat := match kind with | 2 => 2 | 3 => 3 | 4 => 1 | 5 => 4194304 | _ => 0
/-- The values among the words of a block up to word k. -/
def slL (a kind k : Nat) : List Int := someL (a + slOff kind) (min (slMany kind) (k - slOff kind))
theorem slL_yes {a kind k : Nat} (h1 : slOff kind ≤ k) (h2 : k < slOff kind + slMany kind) : slL a kind (k + 1) = slL a kind k ++ [((a : Int) + (k : Int))] := by
  unfold slL
  rw [show min (slMany kind) (k + 1 - slOff kind) = min (slMany kind) (k - slOff kind) + 1 by omega, someL_snoc, show a + slOff kind + min (slMany kind) (k - slOff kind) = a + k by omega]
  simp
theorem slL_no {a kind k : Nat} (h : ¬ (slOff kind ≤ k ∧ k < slOff kind + slMany kind)) : slL a kind (k + 1) = slL a kind k := by
  unfold slL
  rw [show min (slMany kind) (k + 1 - slOff kind) = min (slMany kind) (k - slOff kind) by omega]
theorem slL_one (a kind : Nat) : slL a kind 1 = [] := by
  unfold slL slOff
  split <;> simp [someL]
theorem slL_len (a kind k : Nat) : (slL a kind k).length ≤ k := by rw [slL, someL_len]; omega
theorem slL_bd {a kind k : Nat} (h : a + k ≤ 2097152) : ∀ z ∈ slL a kind k, -9223372036854775808 ≤ z ∧ z ≤ 9223372036854775807 :=
  someL_bd (by have : slOff kind ≤ 2 := by unfold slOff; split <;> omega
               omega)
theorem role_value {kind : Nat} (hq : kind ≤ 5) (n : Int) {k : Nat} (h1 : 1 ≤ k) (h2 : k ≤ 1048576) : (decide (5 ≤ roleOf kind n (k : Int))) = decide (slOff kind ≤ k ∧ k < slOff kind + slMany kind) := by
  rcases (show kind = 0 ∨ kind = 1 ∨ kind = 2 ∨ kind = 3 ∨ kind = 4 ∨ kind = 5 by omega) with rfl | rfl | rfl | rfl | rfl | rfl
  all_goals (
    simp only [roleOf, slOff, slMany]
    rw [Bool.eq_iff_iff]
    simp only [decide_eq_true_eq]
    repeat' split
    all_goals first | omega | (simp; omega) | simp_all)
/-- What Slots tells. -/
def slotsL (zs : List Int) (a : Int) : List Int := match atB zs a with | some b => slL b.1.at' b.1.kind b.1.size | none => []

end Go.Proofs.YtmklllkblnjcmaaGreat
