/-
  The contract of chapter 8's model l8Block.
-/
import Derived.Test.YthloammkgogceaaShapeQ
import Derived.Test.YthloammkgogceaaVal
namespace Go.Proofs.Ythloammkgogceaa
open Go.RowKit
attribute [local go_sem] Plain.and7

/-- A value that leads to a block, of whatever kind fits. -/
def blockV (zs : List Int) (v : Int) : Bool := vOk v && decide (4 ≤ v % 8) && (leadsR zs v 5 || leadsR zs v 3)
set_option maxHeartbeats 8000000 in
set_option maxRecDepth 100000 in
theorem l8Block_ok (w : World) (ao : Option Addr) (cap : Nat) (zs : List Int) (v : Int) (hI : Ints w ao zs) (hl : zs.length ≤ 1048576) (hok : slabOk zs = true) (hvb : -9223372036854775808 ≤ v ∧ v ≤ 9223372036854775807) :
    Calls Try.prog 36 #[.agg #[.slice ao zs.length cap], .int .i64 v] w fun e w' => e = .returned (.bool (blockV zs v)) ∧ Kept w w' := by
  have b0 := Cells.new w 27 #[.slice ao zs.length cap]
  have k0 : Kept w (w.alloc (.cells #[.slice ao zs.length cap] 27)) := Kept.alloc (Below.refl _ _) _
  have c0 := b0.cell 0
  have hVo := fun (u : World) => spec_ValueOk_ok v u hvb.1 hvb.2
  have hKd := fun (u : World) => spec_Kind_ok v u
  have HL : Hid (∀ (u : World) (i : Int), Kept w u → 0 ≤ i → Calls Try.prog 26 #[.agg #[.slice ao zs.length cap], .int .i64 v, .int .i64 i] u fun e w' => e = .returned (.bool (leadsR zs v i)) ∧ Kept u w') := fun u i hu hi => l3Leads_ok u ao cap zs v i (hI.kept hu) hl hok hvb.1 hvb.2 hi
  clear hI hok
  cases h1 : vOk v with
  | false =>
    have HE : Hid (blockV zs v = false) := by simp [Hid, blockV, h1]
    rw [h1] at hVo
    clear h1
    go_enter Try.func36, Try.ntmps36
    go_wp2_with (go_at_call 46; refine (hVo _).mono ?_; rintro e wx ⟨rfl, rfl⟩)
    go_ret
    exact ⟨by rw [HE.out]; rfl, k0⟩
  | true =>
    rw [h1] at hVo
    by_cases h4 : 4 ≤ v % 8
    · have e4 : decide (4 ≤ v % 8) = true := by simpa using h4
      have hL5 := HL.out _ 5 k0 (by omega)
      cases h5 : leadsR zs v 5 with
      | true =>
        have HE : Hid (blockV zs v = true) := by simp [Hid, blockV, h1, h4, h5]
        rw [h5] at hL5
        clear h1 h5
        go_enter Try.func36, Try.ntmps36
        go_wp2_with (first | (go_at_call 46; refine (hVo _).mono ?_; rintro e wx ⟨rfl, rfl⟩) | (go_at_call 48; refine (hKd _).mono ?_; rintro e wx ⟨rfl, rfl⟩))
        refine hL5.mono ?_
        rintro e w1 ⟨rfl, hk1⟩
        go_wp2_with fail
        go_ret
        exact ⟨by rw [HE.out]; rfl, k0.trans hk1⟩
      | false =>
        obtain ⟨r, hr⟩ : ∃ r, leadsR zs v 3 = r := ⟨_, rfl⟩
        have HE : Hid (blockV zs v = r) := by simp [Hid, blockV, h1, h4, h5, hr]
        rw [h5] at hL5
        clear h1 h5
        go_enter Try.func36, Try.ntmps36
        go_wp2_with (first | (go_at_call 46; refine (hVo _).mono ?_; rintro e wx ⟨rfl, rfl⟩) | (go_at_call 48; refine (hKd _).mono ?_; rintro e wx ⟨rfl, rfl⟩))
        refine hL5.mono ?_
        rintro e w1 ⟨rfl, hk1⟩
        have c1 := (b0.kept hk1).cell 0
        have hL3 := HL.out _ 3 (k0.trans hk1) (by omega)
        rw [hr] at hL3
        clear hL5 hr c0
        go_wp2_with fail
        refine hL3.mono ?_
        rintro e w2 ⟨rfl, hk2⟩
        go_wp2_with fail
        go_ret
        exact ⟨by rw [HE.out]; rfl, (k0.trans hk1).trans hk2⟩
    · have e4 : decide (4 ≤ v % 8) = false := by simpa using h4
      have HE : Hid (blockV zs v = false) := by simp [Hid, blockV, h4]
      clear h1
      go_enter Try.func36, Try.ntmps36
      go_wp2_with (first | (go_at_call 46; refine (hVo _).mono ?_; rintro e wx ⟨rfl, rfl⟩) | (go_at_call 48; refine (hKd _).mono ?_; rintro e wx ⟨rfl, rfl⟩))
      go_ret
      exact ⟨by rw [HE.out]; rfl, k0⟩
end Go.Proofs.Ythloammkgogceaa
