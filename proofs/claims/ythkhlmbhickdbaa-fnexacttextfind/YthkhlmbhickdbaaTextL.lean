/-
  The contract of the program's TextFind.
-/
import Derived.Test.YthkhlmbhickdbaaTextK
import Derived.Test.YthkhlmbhickdbaaTextD
namespace Go.Proofs.Ythkhlmbhickdbaa
open Go.RowKit

set_option maxHeartbeats 4000000 in
set_option maxRecDepth 100000 in
theorem impl_TextFind_ok (w : World) (ao : Option Addr) (cap : Nat) (zs : List Int) (t : ByteArray) (hI : Ints w ao zs) (hl : zs.length ≤ 1048576) (hcap : zs.length ≤ cap) :
    Calls Try.prog 10 #[.agg #[.slice ao zs.length cap], .string t] w fun e w' => e = .returned (textFindV zs t) ∧ Kept w w' := by
  have b0 := Cells.new w 28 #[.slice ao zs.length cap]
  have k0 : Kept w (w.alloc (.cells #[.slice ao zs.length cap] 28)) := Kept.alloc (Below.refl _ _) _
  have hH := impl_HeapOk_ok _ ao cap zs (hI.kept k0) hl
  cases hh : heapR zs with
  | false =>
    have HR : Hid (textFindV zs t = .tuple #[.int .i64 0, .bool false]) := by simp [Hid, textFindV, hh]
    rw [hh] at hH
    clear hh hI
    go_enter Try.func10, Try.ntmps10
    go_wp2_with (go_at_call 24; refine hH.mono ?_; rintro e w1 ⟨rfl, hk1⟩)
    go_ret2
    exact ⟨by rw [HR.out]; rfl, k0.trans hk1⟩
  | true =>
    rw [hh] at hH
    have hA := fun (u : World) (hu : Kept w u) => textAt_ok u ao cap zs t (hI.kept hu) hl hcap hh
    have hlen : zs.length ≤ 2000 := (slabOk_iff.1 (heapR_slab hh)).1
    cases hf : findT zs t with
    | none =>
      have HR : Hid (textFindV zs t = .tuple #[.int .i64 0, .bool false]) := by simp [Hid, textFindV, hh, hf, findV]
      rw [hf] at hA
      have HC : Hid (∀ u, Kept w u → Calls Try.prog 25 #[.slice ao zs.length cap, .string t] u fun e w' => e = .returned (.tuple #[.int .i64 0, .bool false]) ∧ Kept u w') := hA
      clear hh hI hA hf hcap
      go_enter Try.func10, Try.ntmps10
      go_wp2_with (first | (go_at_call 24; refine hH.mono ?_; rintro e w1 ⟨rfl, hk1⟩; have hk2 := k0.trans hk1; have hb1 := b0.kept hk1; have cb1 := hb1.cell 0) | (go_at_call 25; refine (HC.out _ hk2).mono ?_; rintro e w2 ⟨rfl, hk3⟩))
      go_ret2
      exact ⟨by rw [HR.out]; rfl, hk2.trans hk3⟩
    | some b =>
      have hb2 := b.2.2.1
      have hb3 := b.2.1
      obtain ⟨m, hm⟩ : ∃ m : Nat, b.1.at' = m := ⟨_, rfl⟩
      have HR : Hid (textFindV zs t = .tuple #[.int .i64 (8 * (m : Int) + 4), .bool true]) := by simp [Hid, textFindV, hh, hf, findV, hm]
      rw [hf] at hA
      have HC : Hid (∀ u, Kept w u → Calls Try.prog 25 #[.slice ao zs.length cap, .string t] u fun e w' => e = .returned (.tuple #[.int .i64 (m : Int), .bool true]) ∧ Kept u w') := fun u hu => (hA u hu).mono (fun e w' h => ⟨by rw [h.1]; simp [atV, hm], h.2⟩)
      have hm2 : m < 2000 := by omega
      clear hh hI hA hf hcap hb2 hb3 hm
      go_enter Try.func10, Try.ntmps10
      go_wp2_with (first | (go_at_call 24; refine hH.mono ?_; rintro e w1 ⟨rfl, hk1⟩; have hk2 := k0.trans hk1; have hb1 := b0.kept hk1; have cb1 := hb1.cell 0) | (go_at_call 25; refine (HC.out _ hk2).mono ?_; rintro e w2 ⟨rfl, hk3⟩) | (go_at_call 26; refine (impl_RefOf_ok _ _ _).mono ?_; rintro e wx ⟨rfl, rfl⟩))
      go_ret2
      exact ⟨by rw [HR.out, vRef_yes (by omega)]; rfl, hk2.trans hk3⟩
end Go.Proofs.Ythkhlmbhickdbaa
