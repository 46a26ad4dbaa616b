/-
  The contracts of chapter 3's models l3Shape, for every kind of block, and ShapeOk.
-/
import Derived.Test.YthkhlmbhickdbaaShapeG
import Derived.Test.YthkhlmbhickdbaaShapeK
import Derived.Test.YthkhlmbhickdbaaShapeL
import Derived.Test.YthkhlmbhickdbaaShapeM
import Derived.Test.YthkhlmbhickdbaaShapeN
namespace Go.Proofs.Ythkhlmbhickdbaa
open Go.RowKit
attribute [local go_sem] Plain.and7

set_option maxHeartbeats 4000000 in
set_option maxRecDepth 100000 in
theorem l3Shape_free (w : World) (ao : Option Addr) (cap : Nat) (zs : List Int) (a s : Nat) (hI : Ints w ao zs) (hle : a + s ≤ zs.length) (hs : 2 ≤ s) (hz9 : hz zs a % 8 = 0) :
    Calls Try.prog 52 #[.agg #[.slice ao zs.length cap], .int .i64 a] w fun e w' => e = .returned (.bool true) ∧ Kept w w' := by
  have b0 := Cells.new w 28 #[.slice ao zs.length cap]
  have k0 : Kept w (w.alloc (.cells #[.slice ao zs.length cap] 28)) := Kept.alloc (Below.refl _ _) _
  have c0 := b0.cell 0
  obtain ⟨bb, off, rfl, hc⟩ := hI.at (k := 0) (by omega)
  have hck := hc a (by omega)
  have hbl : bb < w.heap.size := World.block_lt_of_cell? _ _ hck
  have hltI : (a : Int) < (zs.length : Int) := by omega
  clear hc hI
  go_enter Try.func52, Try.ntmps52
  go_wp2_with (first | (go_at_call 54; refine (l2Size_ok _ _).mono ?_; rintro e wx ⟨rfl, rfl⟩) | (go_at_call 55; refine (l2Kind_ok _ _).mono ?_; rintro e wx ⟨rfl, rfl⟩))
  go_ret
  exact ⟨rfl, k0⟩
set_option maxHeartbeats 4000000 in
set_option maxRecDepth 100000 in
theorem l3Shape_text (w : World) (ao : Option Addr) (cap : Nat) (zs : List Int) (a s : Nat) (hI : Ints w ao zs) (hl : zs.length ≤ 1048576) (hle : a + s ≤ zs.length) (hs : 2 ≤ s) (hz8 : hz zs a / 8 = (s : Int)) (hz9 : hz zs a % 8 = 1) :
    Calls Try.prog 52 #[.agg #[.slice ao zs.length cap], .int .i64 a] w fun e w' => e = .returned (.bool (textR zs a s)) ∧ Kept w w' := by
  have b0 := Cells.new w 28 #[.slice ao zs.length cap]
  have k0 : Kept w (w.alloc (.cells #[.slice ao zs.length cap] 28)) := Kept.alloc (Below.refl _ _) _
  have c0 := b0.cell 0
  have hT := l3Text_ok _ ao cap zs a s (hI.kept k0) hl hle hs
  obtain ⟨bb, off, rfl, hc⟩ := hI.at (k := 0) (by omega)
  have hck := hc a (by omega)
  have hbl : bb < w.heap.size := World.block_lt_of_cell? _ _ hck
  have hltI : (a : Int) < (zs.length : Int) := by omega
  clear hc hI
  go_enter Try.func52, Try.ntmps52
  go_wp2_with (first | (go_at_call 54; refine (l2Size_ok _ _).mono ?_; rintro e wx ⟨rfl, rfl⟩) | (go_at_call 55; refine (l2Kind_ok _ _).mono ?_; rintro e wx ⟨rfl, rfl⟩) | (go_at_call 88; refine hT.mono ?_; rintro e w1 ⟨rfl, hk1⟩))
  go_ret
  exact ⟨rfl, k0.trans hk1⟩
theorem l3Shape_ok (w : World) (ao : Option Addr) (cap : Nat) (zs : List Int) (b : BkOf zs.length) (hI : Ints w ao zs) (hl : zs.length ≤ 1048576) (hok : slabOk zs = true) (hg : Good zs b.1.at') (hs : b.1.size = sz zs b.1.at') (hq : b.1.kind = kd zs b.1.at') :
    Calls Try.prog 52 #[.agg #[.slice ao zs.length cap], .int .i64 ((b.1.at' : Nat) : Int)] w fun e w' => e = .returned (.bool (blkR zs b.1.at' b.1.size b.1.kind)) ∧ Kept w w' := by
  obtain ⟨⟨a, s, q⟩, h2, hle, h5⟩ := b
  simp only at hg hs hq h2 hle h5 ⊢
  have e8 : hz zs a / 8 = (s : Int) := by rw [hs, hg.szI]
  have e9 : hz zs a % 8 = (q : Int) := by rw [hq, kdI]
  rcases (show q = 0 ∨ q = 1 ∨ q = 2 ∨ q = 3 ∨ q = 4 ∨ q = 5 by omega) with h | h | h | h | h | h
  all_goals rw [h] at e9 ⊢
  · rw [blk_free]; exact l3Shape_free w ao cap zs a s hI hle h2 e9
  · rw [blk_text]; exact l3Shape_text w ao cap zs a s hI hl hle h2 e8 e9
  · rw [blk_obj]; exact l3Shape_obj w ao cap zs a s hI hl hok hle h2 e8 e9
  · rw [blk_cell]; exact l3Shape_cell w ao cap zs a s hI hl hok hle h2 e8 e9
  · rw [blk_fun]; exact l3Shape_fun w ao cap zs a s hI hl hok hle h2 e8 e9
  · rw [blk_scope _ _ _ h2]; exact l3Shape_scope w ao cap zs a s hI hl hok hle h2 e8 e9
end Go.Proofs.Ythkhlmbhickdbaa
