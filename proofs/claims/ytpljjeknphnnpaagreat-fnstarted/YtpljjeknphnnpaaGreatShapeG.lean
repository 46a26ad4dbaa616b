/-
  The contract of impl.ShapeOk.
-/
import Derived.Test.YtpljjeknphnnpaaGreatShapeE
import Derived.Test.YtpljjeknphnnpaaGreatShapeF
namespace Go.Proofs.YtpljjeknphnnpaaGreat
open Go.RowKit
attribute [local go_sem] Plain.and7

/-- The block at a is as its kind asks. -/
def shapeR (zs : List Int) (a : Int) : Bool := match atB zs a with | some b => blkR zs b.1.at' b.1.size b.1.kind | none => false

set_option maxHeartbeats 4000000 in
set_option maxRecDepth 100000 in
theorem impl_ShapeOk_ok (w : World) (ao : Option Addr) (cap : Nat) (zs : List Int) (a : Int) (hI : Ints w ao zs) (hl : zs.length ≤ 1048576) :
    Calls Tryz.prog 22 #[.agg #[.slice ao zs.length cap], .int .i64 a] w fun e w' => e = .returned (.bool (shapeR zs a)) ∧ Kept w w' := by
  have hL : zs.length * 8 ≤ 140737488351232 := by omega
  have b0 := Cells.new w 26 #[.slice ao zs.length cap]
  have k0 : Kept w (w.alloc (.cells #[.slice ao zs.length cap] 26)) := Kept.alloc (Below.refl _ _) _
  have hLo := layoutOf_ok _ ao cap zs (hI.kept k0) hl
  cases hok : slabOk zs with
  | false =>
    have HR : Hid (shapeR zs a = false) := by simp [Hid, shapeR, atB, hok]
    have hLo' := hLo.mono (R' := fun e w' => e = .returned (.tuple #[.slice none 0 0, .bool false]) ∧ Kept (w.alloc (.cells #[.slice ao zs.length cap] 26)) w') (fun e w' h => ⟨h.1 hok, h.2.2⟩)
    clear hok hLo hI
    go_enter Tryz.func22, Tryz.ntmps22
    go_wp2_with (go_at_call 55; refine hLo'.mono ?_; rintro e w1 ⟨rfl, hk1⟩)
    go_ret
    exact ⟨by rw [HR.out]; rfl, k0.trans hk1⟩
  | true =>
    have hLo' := hLo.mono (R' := fun e w' => ∃ lo lc, e = .returned (.tuple #[.slice lo zs.length lc, .bool true]) ∧ Ints w' lo (lyt zs) ∧ Kept (w.alloc (.cells #[.slice ao zs.length cap] 26)) w') (fun e w' h => by obtain ⟨lo, lc, h1, h2⟩ := h.2.1 hok; exact ⟨lo, lc, h1, h2, h.2.2⟩)
    clear hLo
    cases hb : atB zs a with
    | none =>
      have HR : Hid (shapeR zs a = false) := by simp [Hid, shapeR, hb]
      have hka : kindAt zs a = -1 := by simp [kindAt, hb]
      clear hok hb
      go_enter Tryz.func22, Tryz.ntmps22
      go_wp2_with (first | (go_at_call 55; refine hLo'.mono ?_; rintro e w1 ⟨lo, lc, rfl, hLy, hk1⟩; have hKA := lkindAt_ok w1 lo lc zs a hLy; rw [hka] at hKA; clear hLy) | (go_at_call 56; refine hKA.mono ?_; rintro e wx ⟨rfl, rfl⟩))
      go_ret
      exact ⟨by rw [HR.out]; rfl, k0.trans hk1⟩
    | some b =>
      have HR : Hid (shapeR zs a = blkR zs b.1.at' b.1.size b.1.kind) := by simp [Hid, shapeR, hb]
      obtain ⟨_, e1, hg, hs, hq, _⟩ := atB_some hb
      have hka : kindAt zs a = ((b.1.kind : Nat) : Int) := by simp [kindAt, hb]
      have hne : (((b.1.kind : Nat) : Int) == -1) = false := by simp
      have hbs := b.2
      have hRB := fun (w1 : World) (hI1 : Ints w1 ao zs) => readBlock_good w1 ao cap zs b.1.at' hI1 hg hL
      rw [← hs, ← hq] at hRB
      subst e1
      clear hok hb hg hs hq
      go_enter Tryz.func22, Tryz.ntmps22
      go_wp2_with (first | (go_at_call 55; refine hLo'.mono ?_; rintro e w1 ⟨lo, lc, rfl, hLy, hk1⟩; have hKA := lkindAt_ok w1 lo lc zs ((b.1.at' : Nat) : Int) hLy; rw [hka] at hKA; have c1 := (b0.kept hk1).cell 0; have l1 := (b0.kept hk1).lt; have HLy : Hid (Ints w1 lo (lyt zs)) := hLy; clear hLy hka) | (go_at_call 56; refine hKA.mono ?_; rintro e wx ⟨rfl, rfl⟩) | (go_at_call 57; refine (hRB _ (hI.kept (k0.trans hk1))).mono ?_; rintro e w2 ⟨rfl, hk2⟩; have c2 := ((b0.kept hk1).kept hk2).cell 0; have l2 := ((b0.kept hk1).kept hk2).lt; have kb : Kept w2 (w2.alloc (.cells (bkC (b.1.at' : Nat) (b.1.size : Nat) (b.1.kind : Nat)) 73)) := Kept.alloc (Below.refl _ _) _) | (go_at_call 58; refine (blockOk_ok _ lo ao lc cap zs b.1.at' b.1.size b.1.kind ((HLy.out.kept hk2).kept kb) (hI.kept (((k0.trans hk1).trans hk2).trans kb)) hl hbs.2.1 hbs.1 hbs.2.2).mono ?_; rintro e w3 ⟨rfl, hk3⟩))
      go_ret
      exact ⟨by rw [HR.out]; rfl, (((k0.trans hk1).trans hk2).trans kb).trans hk3⟩
end Go.Proofs.YtpljjeknphnnpaaGreat
