/-
  Roots of one value and of two; the contract of the program's fillBlock.
-/
import Derived.Test.YthkhlmbhickdbaaObjF
import Derived.Test.YthkhlmbhickdbaaSlabQ
import Derived.Test.YthkhlmbhickdbaaSplA
import Derived.Deep.RegionWith
namespace Go.Proofs.Ythkhlmbhickdbaa
open Go.RowKit
attribute [local go_sem] Plain.and7

theorem leads_any {zs : List Int} {v : Int} (h : v % 8 ≠ 7) (i j : Int) : leadsR zs v i = leadsR zs v j := by
  rcases kinds8 v with h | h | h | h | h | h | h | h
  all_goals first | (exfalso; omega) | simp [leadsR, wantK, h]
theorem roots2 {zs : List Int} {a b : Int} : rootsR zs [a, b] = (heapR zs && (leadsR zs a 5 && leadsR zs b 5)) := by
  unfold rootsR leadAll
  rw [show [a, b].length = 2 from rfl, allR_succ, allR_succ, allR_zero]
  simp [hz]
theorem roots1 {zs : List Int} {a : Int} : rootsR zs [a] = (heapR zs && leadsR zs a 5) := by
  unfold rootsR leadAll
  rw [show [a].length = 1 from rfl, allR_succ, allR_zero]
  simp [hz]
end Go.Proofs.Ythkhlmbhickdbaa
