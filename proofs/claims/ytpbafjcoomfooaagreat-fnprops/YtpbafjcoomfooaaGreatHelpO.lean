/-
  The contracts of the marks of the exact laws: what is laid into a list of integers or a slab, and whether it is held there.
-/
import Derived.Test.YtpbafjcoomfooaaGreatOwnP
import Derived.Test.YtpbafjcoomfooaaGreatHelpL
namespace Go.Proofs.YtpbafjcoomfooaaGreat
open Go.RowKit

theorem grown_trans {a b c : World} {row : Option Nat} (h : a.grownBy b row) (k : b.grownBy c row) : a.grownBy c row :=
  ⟨k.os.trans h.os, k.tape.trans h.tape, k.output.trans h.output, Nat.le_trans h.size k.size, fun j hj hr => (k.block j (Nat.lt_of_lt_of_le hj h.size) hr).trans (h.block j hj hr)⟩
theorem grown_set {a b : World} {g k : Nat} (h : a.grownBy b (some g)) (v : Value) : a.grownBy (b.setCell ⟨g, k, none⟩ v) (some g) :=
  grown_trans h ⟨rfl, rfl, rfl, by simp [World.setCell], fun j _ hr => Below.heap_setCell _ _ _ _ (fun e => hr (by rw [e]))⟩
theorem grown_kept {a b c : World} {row : Option Nat} (h : a.grownBy b row) (k : Kept b c) : a.grownBy c row :=
  grown_trans h ⟨k.os, k.tape, k.output, k.size, fun j hj _ => k.block j hj⟩
theorem kept_grown {a b c : World} {row : Option Nat} (h : Kept a b) (k : b.grownBy c row) : a.grownBy c row :=
  grown_trans ⟨h.os, h.tape, h.output, h.size, fun j hj _ => h.block j hj⟩ k
theorem Kept.grownRow {w a b : World} {row : Option Nat} (h : Kept w a) (hg : a.grownBy b row) (hr : ∀ k, row = some k → w.heap.size ≤ k) : Kept w b := Below.grown h hg h.size hr
theorem Row.grown {W W' : World} {g : Nat} {zs : List Int} {row : Option Nat} (h : Row W g zs) (hg : W.grownBy W' row) (hne : some g ≠ row) : Row W' g zs := h.block (hg.block g h.lt hne)
theorem Cells.grown {W W' : World} {B : Nat} {t : TypeId} {cs : Array Value} {row : Option Nat} (h : Cells W B t cs) (hg : W.grownBy W' row) (hne : some B ≠ row) : Cells W' B t cs := (hg.block B h.lt hne).trans h
theorem OwnL.kept {W W' : World} {base : Nat} {v : Value} {zs : List Int} {row : Option Nat} (h : OwnL W base v zs) (hg : W.grownBy W' row) (hne : ∀ k, row = some k → ∀ j, v.ownBlock = some j → j ≠ k) : OwnL W' base v zs := by
  refine ⟨h.1, h.2.kept hg ?_⟩
  cases hv : v.ownBlock with
  | none => exact .inl rfl
  | some j => exact .inr (fun e => hne j e.symm j hv rfl)

/-- The marks 1, 2, .. -/
def marks (n : Nat) : List Int := (List.range n).map (fun i : Nat => (i : Int) + 1)
theorem marks_len (n : Nat) : (marks n).length = n := by simp [marks]
theorem marks_at {n j : Nat} (h : j < n) : hz (marks n) j = (j : Int) + 1 := by simp [hz, marks, h]
theorem marks_bd {n : Nat} (hn : n ≤ 1048576) : ∀ z ∈ marks n, -9223372036854775808 ≤ z ∧ z ≤ 9223372036854775807 := by
  intro z hz
  obtain ⟨i, hi, rfl⟩ := List.mem_map.1 hz
  have := List.mem_range.1 hi
  constructor <;> omega
def mixed (zs : List Int) (k : Nat) : List Int := marks k ++ zs.drop k
theorem mixed_len (zs : List Int) {k : Nat} (hk : k ≤ zs.length) : (mixed zs k).length = zs.length := by simp [mixed, marks_len]; omega
theorem mixed_all (zs : List Int) : mixed zs zs.length = marks zs.length := by simp [mixed]
theorem mixed_succ (zs : List Int) {k : Nat} (hk : k < zs.length) : (mixed zs k).set k ((k : Int) + 1) = mixed zs (k + 1) := by
  apply List.ext_getElem?
  intro j
  rw [List.getElem?_set, mixed_len zs (by omega)]
  unfold mixed
  by_cases e : k = j
  · subst e
    rw [if_pos rfl, if_pos hk, List.getElem?_append_left (by simp [marks_len])]
    simp [marks]
  · rw [if_neg e]
    by_cases h : j < k
    · rw [List.getElem?_append_left (by simp [marks_len]; omega), List.getElem?_append_left (by simp [marks_len]; omega)]
      simp [marks, h, show j < k + 1 by omega]
    · rw [List.getElem?_append_right (by simp [marks_len]; omega), List.getElem?_append_right (by simp [marks_len]; omega)]
      simp only [marks_len, List.getElem?_drop]
      rw [show k + (j - k) = k + 1 + (j - (k + 1)) by omega]

end Go.Proofs.YtpbafjcoomfooaaGreat
