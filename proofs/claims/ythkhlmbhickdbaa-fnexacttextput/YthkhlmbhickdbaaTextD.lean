/-
  The contract of chapter 4's model TextFind.
-/
import Derived.Test.YthkhlmbhickdbaaTextC
namespace Go.Proofs.Ythkhlmbhickdbaa
open Go.RowKit

set_option maxHeartbeats 4000000 in
set_option maxRecDepth 100000 in
theorem spec_TextFind_ok (w : World) (ao : Option Addr) (cap : Nat) (zs : List Int) (t : ByteArray) (hI : Ints w ao zs) (hl : zs.length ≤ 1048576) :
    Calls Try.prog 8 #[.agg #[.slice ao zs.length cap], .string t] w fun e w' => e = .returned (textFindV zs t) ∧ Kept w w' := by
  have b0 := Cells.new w 28 #[.slice ao zs.length cap]
  have k0 : Kept w (w.alloc (.cells #[.slice ao zs.length cap] 28)) := Kept.alloc (Below.refl _ _) _
  have hH := spec_HeapOk_ok _ ao cap zs (hI.kept k0) hl
  cases hh : heapR zs with
  | false =>
    have HR : Hid (textFindV zs t = .tuple #[.int .i64 0, .bool false]) := by simp [Hid, textFindV, hh]
    rw [hh] at hH
    clear hh hI
    go_enter Try.func8, Try.ntmps8
    go_wp2_with (go_at_call 21; refine hH.mono ?_; rintro e w1 ⟨rfl, hk1⟩)
    go_ret2
    exact ⟨by rw [HR.out]; rfl, k0.trans hk1⟩
  | true =>
    have HR : Hid (textFindV zs t = findV (findT zs t)) := by simp [Hid, textFindV, hh]
    rw [hh] at hH
    have hF := fun (u : World) (hu : Kept w u) => l4Find_ok u ao cap zs t (hI.kept hu) hl hh
    have HC : Hid (∀ u, Kept w u → Calls Try.prog 22 #[.agg #[.slice ao zs.length cap], .string t] u fun e w' => ∃ x y, findV (findT zs t) = .tuple #[.int .i64 x, .bool y] ∧ e = .returned (.tuple #[.int .i64 x, .bool y]) ∧ Kept u w') := fun u hu => (hF u hu).mono (fun e w' h => by
      cases hf : findT zs t with
      | none => exact ⟨_, _, rfl, by rw [h.1, hf]; rfl, h.2⟩
      | some b => exact ⟨_, _, rfl, by rw [h.1, hf]; rfl, h.2⟩)
    clear hh hI hF
    go_enter Try.func8, Try.ntmps8
    go_wp2_with (first | (go_at_call 21; refine hH.mono ?_; rintro e w1 ⟨rfl, hk1⟩; have hk2 := k0.trans hk1; have hb1 := b0.kept hk1; have cb1 := hb1.cell 0) | (go_at_call 22; refine (HC.out _ hk2).mono ?_; rintro e w2 ⟨x, y, exy, rfl, hk3⟩))
    go_ret2
    exact ⟨by rw [HR.out, exy]; rfl, hk2.trans hk3⟩
end Go.Proofs.Ythkhlmbhickdbaa
