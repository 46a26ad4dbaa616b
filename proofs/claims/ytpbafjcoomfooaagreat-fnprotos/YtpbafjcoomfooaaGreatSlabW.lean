/-
  The contract of impl.Blocks: the places of the blocks, in a row of its own.
-/
import Derived.Test.YtpbafjcoomfooaaGreatSlabV
import Derived.Test.YtpbafjcoomfooaaGreatHelpL
import Derived.Test.YtpbafjcoomfooaaGreatOwnP
namespace Go.Proofs.YtpbafjcoomfooaaGreat
open Go.RowKit Go.Shelf
attribute [local go_sem] Oper.semAt_some

def atsOf {L : Nat} (pre : List (BkOf L)) : List Int := pre.map (fun b => ((b.1.at' : Nat) : Int))
theorem atsOf_snoc {L : Nat} (pre : List (BkOf L)) (x : BkOf L) : atsOf (pre ++ [x]) = atsOf pre ++ [((x.1.at' : Nat) : Int)] := by simp [atsOf]
theorem atsOf_bd {L : Nat} (hL : L * 8 ≤ 140737488351232) (pre : List (BkOf L)) : ∀ z ∈ atsOf pre, -9223372036854775808 ≤ z ∧ z ≤ 9223372036854775807 := by
  intro z hz
  obtain ⟨b, _, rfl⟩ := List.mem_map.1 hz
  have := b.2
  constructor <;> omega
theorem atsOf_len {L : Nat} (pre : List (BkOf L)) : (atsOf pre).length = pre.length := by simp [atsOf]

theorem append_box {W w1 : World} {nw nI B : Nat} {t : TypeId} {v v' : Value} {k m : Nat} {xs ys : List Value} {tmp : Obj}
    (hv : Boxed W B t v) (hte : t ≠ 3) (hrow : W.ownsRow nI 3 1 v k xs) (hn : nw ≤ nI) (hnW : nI ≤ W.heap.size) (hB : nw ≤ B)
    (hown' : w1.ownsRow nI 3 1 v' m ys) (hgrow : (W.alloc tmp).grownBy w1 v.ownBlock) :
    Boxed w1 B t v ∧ Boxed (w1.setCell ⟨B, 0, none⟩ v') B t v' ∧ (w1.setCell ⟨B, 0, none⟩ v').ownsRow nI 3 1 v' m ys ∧ KeepsOthers W (w1.setCell ⟨B, 0, none⟩ v') ∧ Below nw W (w1.setCell ⟨B, 0, none⟩ v') ∧ KeepX (fun k => k = B) nI W (w1.setCell ⟨B, 0, none⟩ v') := by
  obtain ⟨h1, h2, _, h4, h5⟩ := Boxed.appended hv hte (ownsRow_base hrow hn) (by omega) hB (ownsRow_base hown' hn) hgrow
  refine ⟨h1, h2, hown'.kept (grownBy_setCell' w1 B v') (.inr (h1.not_row hte hown').symm), h4, h5, h5.size, fun j o hj _ hx hi => ?_⟩
  rw [Below.heap_setCell _ _ _ _ hx]
  have hjl : j < W.heap.size := (Array.getElem?_eq_some_iff.1 hj).1
  refine (hgrow.block j (by simp; omega) (fun e => hi ?_)).trans ((heap_alloc_old W tmp j hjl).trans hj)
  rcases hrow.2 with ⟨rfl, _⟩ | ⟨g, cap, cur, rfl, hg, hc, _⟩
  · simp [Value.ownBlock] at e
  · obtain rfl : j = g := by simpa [Value.ownBlock] using e
    rw [hj] at hc; cases hc
    exact ⟨hg, cur, (0, 0), rfl⟩

end Go.Proofs.YtpbafjcoomfooaaGreat
