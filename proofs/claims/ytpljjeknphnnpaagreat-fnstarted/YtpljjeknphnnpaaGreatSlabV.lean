/-
  The contracts of chapter 2's functions of the program that read alone: KindAt, SizeAt, Room, firstFree, freeAbout, Blocks.
-/
import Derived.Test.YtpljjeknphnnpaaGreatSlabU
namespace Go.Proofs.YtpljjeknphnnpaaGreat
open Go.RowKit Go.Shelf
attribute [local go_sem] Oper.semAt_some

theorem impl_KindAt_ok (w : World) (ao : Option Addr) (cap : Nat) (zs : List Int) (a : Int) (hI : Ints w ao zs) (hL : zs.length * 8 ≤ 140737488351232) :
    Calls Tryz.prog 29 #[.agg #[.slice ao zs.length cap], .int .i64 a] w fun e w' => e = .returned (.int .i64 (kindAt zs a)) ∧ Kept w w' := by
  have k0 : Kept w (w.alloc (.cells #[.slice ao zs.length cap] 26)) := Kept.alloc (Below.refl _ _) _
  have hF := findBlock_ok _ ao cap zs a (hI.kept k0) hL
  unfold fbV at hF
  unfold kindAt
  cases hb : atB zs a with
  | none =>
    rw [hb] at hF
    clear hb hI
    go_enter Tryz.func29, Tryz.ntmps29
    go_wp2_with (go_at_call 51; refine hF.mono ?_; rintro e w1 ⟨rfl, hk1⟩)
    go_ret
    exact ⟨rfl, (k0.trans hk1).alloc _⟩
  | some b =>
    rw [hb] at hF
    clear hb hI
    go_enter Tryz.func29, Tryz.ntmps29
    go_wp2_with (go_at_call 51; refine hF.mono ?_; rintro e w1 ⟨rfl, hk1⟩)
    go_ret
    exact ⟨rfl, (k0.trans hk1).alloc _⟩
theorem blocks_count (zs : List Int) : 2 * (blocks zs).length ≤ zs.length := by
  refine blks_ind zs (P := fun k => k ≤ zs.length → k + 2 * (blks zs k).length ≤ zs.length) (fun k h ih hk => ?_) (fun k h hk => by rw [blks_no h]; simpa using hk) 0 (Nat.zero_le _) |> (fun h => by have : 0 + 2 * (blks zs 0).length ≤ zs.length := h; unfold blocks; omega)
  have := ih h.le
  have := h.sz2
  rw [blks_yes h]
  simp only [List.length_cons]
  omega
theorem slabOk_len {zs : List Int} (h : slabOk zs = true) : zs.length ≤ 2000 := (slabOk_iff.1 h).1
end Go.Proofs.YtpljjeknphnnpaaGreat
