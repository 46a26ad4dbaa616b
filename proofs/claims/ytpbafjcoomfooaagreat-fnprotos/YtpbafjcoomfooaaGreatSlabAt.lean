/-
  A block of the slab is found at its place.
-/
import Derived.Test.YtpbafjcoomfooaaGreatSlabP
namespace Go.Proofs.YtpbafjcoomfooaaGreat
open Go.RowKit

theorem atB_mem {zs : List Int} (hok : slabOk zs = true) {b : BkOf zs.length} (hb : b ∈ blocks zs) : atB zs ((b.1.at' : Nat) : Int) = some b := by
  unfold atB
  rw [if_pos hok]
  obtain ⟨p, r, e⟩ := List.append_of_mem hb
  have hs := blks_sorted zs 0
  rw [show blks zs 0 = blocks zs from rfl, e] at hs
  rw [e, List.find?_append]
  have : p.find? (fun c => decide (((c.1.at' : Nat) : Int) = ((b.1.at' : Nat) : Int))) = none := by
    rw [List.find?_eq_none]
    intro c hc
    have := (List.pairwise_append.1 hs).2.2 c hc b (by simp)
    simp; omega
  rw [this]
  simp
end Go.Proofs.YtpbafjcoomfooaaGreat
