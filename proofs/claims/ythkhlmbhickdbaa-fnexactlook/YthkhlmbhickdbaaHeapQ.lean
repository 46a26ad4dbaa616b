/-
  Facts on lists: to what a value leads; lists of places, each once.
-/
import Derived.Test.YthkhlmbhickdbaaTextA
namespace Go.Proofs.Ythkhlmbhickdbaa
open Go.RowKit

theorem leads_kind {zs : List Int} {v inner : Int} (h : leadsR zs v inner = true) (h4 : 4 ≤ v % 8) : kindAt zs (v / 8) = wantK (v % 8) inner := by
  unfold leadsR at h
  simp only [Bool.and_eq_true, Bool.or_eq_true, decide_eq_true_eq] at h
  rcases h.2 with h | h
  · omega
  · exact h
theorem nodup_le : ∀ (n : Nat) (ps : List Nat), ps.Nodup → (∀ p ∈ ps, p < n) → ps.length ≤ n
  | 0, ps, _, h => by
    cases ps with
    | nil => simp
    | cons p _ => exact absurd (h p (by simp)) (by omega)
  | n + 1, ps, hd, h => by
    have h1 := nodup_le n (ps.erase n) (hd.erase n) (fun p hp => by
      have := hd.mem_erase_iff.1 hp
      have := h p this.2
      omega)
    have := List.length_erase (a := n) (l := ps)
    split at this <;> omega
end Go.Proofs.Ythkhlmbhickdbaa
