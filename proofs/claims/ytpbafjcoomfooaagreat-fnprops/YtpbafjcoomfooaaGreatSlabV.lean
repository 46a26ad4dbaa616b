/-
  The contracts of chapter 2's functions of the program that read alone: KindAt, SizeAt, Room, firstFree, freeAbout, Blocks.
-/
import Derived.Test.YtpbafjcoomfooaaGreatSlabU
namespace Go.Proofs.YtpbafjcoomfooaaGreat
open Go.RowKit Go.Shelf
attribute [local go_sem] Oper.semAt_some

theorem blocks_count (zs : List Int) : 2 * (blocks zs).length ≤ zs.length := by
  refine blks_ind zs (P := fun k => k ≤ zs.length → k + 2 * (blks zs k).length ≤ zs.length) (fun k h ih hk => ?_) (fun k h hk => by rw [blks_no h]; simpa using hk) 0 (Nat.zero_le _) |> (fun h => by have : 0 + 2 * (blks zs 0).length ≤ zs.length := h; unfold blocks; omega)
  have := ih h.le
  have := h.sz2
  rw [blks_yes h]
  simp only [List.length_cons]
  omega
theorem slabOk_len {zs : List Int} (h : slabOk zs = true) : zs.length ≤ 2000 := (slabOk_iff.1 h).1
end Go.Proofs.YtpbafjcoomfooaaGreat
