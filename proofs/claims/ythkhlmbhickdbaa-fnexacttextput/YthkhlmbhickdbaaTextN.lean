/-
  The contract of chapter 4's model TextPut.
-/
import Derived.Test.YthkhlmbhickdbaaTextM
namespace Go.Proofs.Ythkhlmbhickdbaa
open Go.RowKit

theorem putC_len (zs : List Int) (t : ByteArray) : (putC zs t).1.length = zs.length := by
  unfold putC
  split
  · rfl
  · split
    · rfl
    · split
      · rfl
      · rw [fillL_len]; unfold takeL; split <;> simp [layL_len]

set_option maxHeartbeats 4000000 in
set_option maxRecDepth 100000 in
theorem spec_TextPut_bad (w : World) (ao : Option Addr) (cap : Nat) (zs : List Int) (t : ByteArray) (hI : Ints w ao zs) (hl : zs.length ≤ 1048576) (hh : heapR zs = false) :
    Calls Try.prog 12 #[.agg #[.slice ao zs.length cap], .string t] w fun e w' => e = .returned (.tuple #[.agg #[.slice none 0 0], .int .i64 0, .bool false]) ∧ Kept w w' := by
  have b1 := Cells.new (w.alloc (.cells #[.slice ao zs.length cap] 28)) 28 #[.slice none 0 0]
  have k0 : Kept w ((w.alloc (.cells #[.slice ao zs.length cap] 28)).alloc (.cells #[.slice none 0 0] 28)) := (Kept.alloc (Below.refl _ _) _).alloc _
  simp only [World.size_alloc] at b1
  have hS := spec_HeapOk_ok _ ao cap zs (hI.kept k0) hl
  rw [hh] at hS
  clear hh
  go_enter Try.func12, Try.ntmps12
  go_wp2_with (go_at_call 21; refine hS.mono ?_; rintro e w1 ⟨rfl, hk1⟩; have d1 := (b1.kept hk1).cell 0; have f1 := (b1.kept hk1).frozen 0)
  have q := ((b1.kept hk1).set1 (.slice none 0 0)).cell 0
  refine bodyPost_ret (v := .tuple #[.agg #[.slice none 0 0], .int .i64 0, .bool false]) (by simp [results, Try.results12, go_sem, q]) rfl ⟨rfl, (k0.trans hk1).set (by simp) _⟩
set_option maxHeartbeats 4000000 in
set_option maxRecDepth 100000 in
theorem spec_TextPut_do (w : World) (ao : Option Addr) (cap : Nat) (zs : List Int) (t : ByteArray) (hI : Ints w ao zs) (hl : zs.length ≤ 1048576) (hh : heapR zs = true) :
    Calls Try.prog 12 #[.agg #[.slice ao zs.length cap], .string t] w fun e w' => ∃ v, e = .returned (.tuple #[.agg #[v], .int .i64 (putC zs t).2.1, .bool (putC zs t).2.2]) ∧ OwnR w' w.heap.size v (putC zs t).1 ∧ Kept w w' ∧ FullV w' v := by
  have b0 := (Cells.new w 28 #[.slice ao zs.length cap]).alloc (.cells #[.slice none 0 0] 28)
  have b1 := Cells.new (w.alloc (.cells #[.slice ao zs.length cap] 28)) 28 #[.slice none 0 0]
  have k0 : Kept w ((w.alloc (.cells #[.slice ao zs.length cap] 28)).alloc (.cells #[.slice none 0 0] 28)) := (Kept.alloc (Below.refl _ _) _).alloc _
  simp only [World.size_alloc] at b1
  have hS := spec_HeapOk_ok _ ao cap zs (hI.kept k0) hl
  rw [hh] at hS
  have hrl := putC_len zs t
  have hT := fun (u : World) (g c : Nat) (hR : Row u g zs) => l4Put_ok u g c zs t hR hl hh
  obtain ⟨rs, hrs⟩ : ∃ rs, (putC zs t).1 = rs := ⟨_, rfl⟩
  obtain ⟨x, hx⟩ : ∃ x, (putC zs t).2.1 = x := ⟨_, rfl⟩
  obtain ⟨y, hy⟩ : ∃ y, (putC zs t).2.2 = y := ⟨_, rfl⟩
  rw [hrs, hx, hy] at hT ⊢
  rw [hrs] at hrl
  clear hh hrs hx hy
  go_enter Try.func12, Try.ntmps12
  go_wp2_with (first | (go_at_call 21; refine hS.mono ?_; rintro e w1 ⟨rfl, hk1⟩; have d0 := (b0.kept hk1).cell 0) | (go_at_call 29; refine (l2Copy_ok _ ao cap zs ((hI.kept k0).kept hk1) hl).mono ?_; rintro e w2 ⟨g2, c2, rfl, hg2, hc2, hR2, hk2, sz2⟩) | (go_at_call 28; refine (hT _ g2 c2 hR2).mono ?_; rintro e w3 ⟨rfl, hR3, hG3⟩; have hs1 := hk1.size; simp only [World.size_alloc] at hs1; have x1 := ((b1.kept hk1).kept hk2).grown hG3.1 (by intro e; simp at e; omega); have d1 := x1.cell 0; have f1 := x1.frozen 0; have l1 := x1.lt))
  have k3 := ((k0.trans hk1).trans hk2).grownRow hG3.1 (fun k e => by cases e; omega)
  have q := ((x1.set1 (.slice (some ⟨g2, 0, none⟩) zs.length c2)).alloc (.cells #[.slice (some ⟨g2, 0, none⟩) zs.length c2] 28)).cell 0
  refine bodyPost_ret (v := .tuple #[.agg #[.slice (some ⟨g2, 0, none⟩) zs.length c2], .int .i64 x, .bool y]) (by simp [results, Try.results12, go_sem, q]) rfl ⟨_, rfl, .inr ⟨g2, c2, by rw [hrl], by omega, by rw [hrl]; exact hc2, (hR3.other (by intro h; simp at h <;> omega) _).kept (Kept.alloc (Below.refl _ _) _)⟩, (k3.set (by simp) _).alloc _, FullV.one (((hG3.2 _ sz2).set _ _ _).kept (Kept.alloc (Below.refl _ _) _))⟩
end Go.Proofs.Ythkhlmbhickdbaa
