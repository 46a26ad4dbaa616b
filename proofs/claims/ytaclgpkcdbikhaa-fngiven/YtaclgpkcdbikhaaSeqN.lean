/-
  A region whose order is not drawn, walked as Seq walks those that draw.
-/
import Derived.Test.YtaclgpkcdbikhaaSeq
namespace Go.Proofs.Ytaclgpkcdbikhaa
open Go.RowKit

section
variable {P : Program} {ops : Array Oper}
theorem wpList_seqL {W : World} {fin : Act → Prop} {Q : Exit → Act → World → Prop} (hf : ∀ a w', fin a → Kept W w' → Q .normal a w') : ∀ (os : List Oper) (a : Act) (w : World), Kept W w → SeqL P ops W fin os a → wpList P ops Q os a w
  | [], a, w, hw, h => hf a w h hw
  | o :: os, a, w, hw, ⟨v, hs, h⟩ => by
    refine wpList_step fun K hK => ?_
    rcases hs with ⟨hn, rfl⟩ | ⟨hy, hr⟩
    · rw [if_neg (by rw [hn]; exact Bool.false_ne_true)]
      exact hK _ _ (wpList_seqL hf os _ w hw h)
    · rw [if_pos hy]
      unfold Oper.wp
      rcases hr w hw with e | ⟨f, args, e, hc⟩
      · rw [e]
        exact hK _ _ (wpList_seqL hf os _ w hw h)
      · rw [e, Oper.upon_enter]
        refine hc.mono ?_
        rintro _ w' ⟨rfl, hk⟩
        exact hK _ _ (wpList_seqL hf os _ w' (hw.trans hk) h)
/-- A region that does not draw. -/
theorem wp_region_seqN {os : List Oper} {id : Nat} {Q : Exit → Act → World → Prop} {a : Act} {w : World}
    (h : SeqL P os.toArray w (fun a' => ∀ w', Kept w w' → Q .normal a' w') os a) : (Code.region id os.toArray false).wp P Q a w :=
  wp_region_lit (wpList_seqL (fun _ w' hfin hk => hfin w' hk) os a w (Below.refl _ _) h)
end
end Go.Proofs.Ytaclgpkcdbikhaa
