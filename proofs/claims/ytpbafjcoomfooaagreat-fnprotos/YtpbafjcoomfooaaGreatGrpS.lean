/-
  A region whose order is not drawn, walked as Seq walks those that draw.
  The law's helper sameInts, where it tells yes.
-/
import Derived.Test.YtpbafjcoomfooaaGreatSeq
import Derived.Test.YtpbafjcoomfooaaGreatSlabI
namespace Go.Proofs.YtpbafjcoomfooaaGreat
open Go.RowKit

section
variable {P : Program} {ops : Array Oper}
theorem wpList_seqL {W : World} {fin : Act → Prop} {Q : Exit → Act → World → Prop} (hf : ∀ a w', fin a → Kept W w' → Q .normal a w') : ∀ (os : List Oper) (a : Act) (w : World), Kept W w → SeqL P ops W fin os a → wpList P ops Q os a w
  | [], a, w, hw, h => hf a w h hw
  | o :: os, a, w, hw, ⟨v, hs, h⟩ => by
    refine wpList_step fun K hK => ?_
    rcases hs with ⟨hn, rfl⟩ | ⟨hy, hr⟩
    · rw [if_neg (by rw [hn]; exact Bool.false_ne_true)]
      exact hK _ _ (wpList_seqL hf os _ w hw h)
    · rw [if_pos hy]
      unfold Oper.wp
      rcases hr w hw with e | ⟨f, args, e, hc⟩
      · rw [e]
        exact hK _ _ (wpList_seqL hf os _ w hw h)
      · rw [e, Oper.upon_enter]
        refine hc.mono ?_
        rintro _ w' ⟨rfl, hk⟩
        exact hK _ _ (wpList_seqL hf os _ w' (hw.trans hk) h)
/-- A region that does not draw. -/
theorem wp_region_seqN {os : List Oper} {id : Nat} {Q : Exit → Act → World → Prop} {a : Act} {w : World}
    (h : SeqL P os.toArray w (fun a' => ∀ w', Kept w w' → Q .normal a' w') os a) : (Code.region id os.toArray false).wp P Q a w :=
  wp_region_lit (wpList_seqL (fun _ w' hfin hk => hfin w' hk) os a w (Below.refl _ _) h)
end
end Go.Proofs.YtpbafjcoomfooaaGreat
namespace Go.Proofs.YtpbafjcoomfooaaGreat
open Go.RowKit

set_option maxHeartbeats 4000000 in
set_option maxRecDepth 100000 in
theorem sameInts_ok (w : World) (ao bo : Option Addr) (ca cb : Nat) (zs : List Int) (hA : Ints w ao zs) (hB : Ints w bo zs) (hl : zs.length ≤ 1048576) :
    Calls Tryz.prog 10 #[.slice ao zs.length ca, .slice bo zs.length cb] w fun e w' => e = .returned (.bool true) ∧ Kept w w' := by
  go_enter Tryz.func10, Tryz.ntmps10
  go_wp2
  go_loopw [5] (fun i wr => ∃ k : Nat, i = .int .i64 k ∧ k ≤ zs.length ∧ Kept w wr) (fun i _ => zs.length - (intOf i).toNat)
  case atStart => exact ⟨0, rfl, Nat.zero_le _, Below.refl _ _⟩
  case round =>
    obtain ⟨k, rfl, hk, hK⟩ := hrel
    have HK : Hid (Kept w wr) := hK
    by_cases hlt : k < zs.length
    · obtain ⟨b1, o1, rfl, hc1⟩ := hA.at hlt
      obtain ⟨b2, o2, rfl, hc2⟩ := hB.at hlt
      have l1 : b1 < w.heap.size := World.block_lt_of_cell? _ _ (hc1 k hlt)
      have l2 : b2 < w.heap.size := World.block_lt_of_cell? _ _ (hc2 k hlt)
      have x0 : ∀ u, Kept wr.drew u → u.cell? ⟨b1, o1 + k, none⟩ = some (.int .i64 (hz zs k)) := fun u hu => ((hK.trans (Kept.trans ((Below.refl _ wr).drew) hu)).cell (p := ⟨b1, o1 + k, none⟩) l1).trans (hc1 k hlt)
      have y0 : ∀ u, Kept wr.drew u → u.cell? ⟨b2, o2 + k, none⟩ = some (.int .i64 (hz zs k)) := fun u hu => ((hK.trans (Kept.trans ((Below.refl _ wr).drew) hu)).cell (p := ⟨b2, o2 + k, none⟩) l2).trans (hc2 k hlt)
      have q1 : (k : Int) < (zs.length : Int) := by omega
      clear hc1 hc2 hA hB hK
      go_wp2_with fail
      refine wp_region_seqL (by kernel_rfl) (by kernel_rfl) ?_
      repeat (refine SeqL.pure ?_ (by rfl) ?_ ?_; rotate_left; (focus (intro u hu; have x0' := x0 u hu; have y0' := y0 u hu; go_simp; first | done | exact rfl)); simp only [Act.put, List.setIfInBounds_toArray, List.set_cons_zero, List.set_cons_succ])
      refine SeqL.nil ?_
      intro u hu
      have hK' := HK.out.trans (Kept.trans ((Below.refl _ wr).drew) hu)
      clear x0 y0
      go_wp2_with fail
      go_roundw
      case rel => exact ⟨k + 1, by go_num, by omega, hK'⟩
      case measure => simp [intOf]; omega
    · clear hA hB hK
      go_wp2
      go_ret
      exact ⟨rfl, HK.out⟩
end Go.Proofs.YtpbafjcoomfooaaGreat
