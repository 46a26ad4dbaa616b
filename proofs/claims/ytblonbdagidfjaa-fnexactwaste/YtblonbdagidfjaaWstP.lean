/-
  Facts on lists: how many words the blocks have that are neither free nor among some places (chapter 9's Waste).
-/
import Derived.Test.YtblonbdagidfjaaRchP
import Derived.Test.YtblonbdagidfjaaSlabV
namespace Go.Proofs.Ytblonbdagidfjaa
open Go.RowKit

def wstOf {L : Nat} (out : List Int) : List (BkOf L) → Nat
  | [] => 0
  | b :: bs => (if b.1.kind ≠ 0 ∧ ((b.1.at' : Nat) : Int) ∉ out then b.1.size else 0) + wstOf out bs
theorem wstOf_append {L : Nat} (out : List Int) (xs bs : List (BkOf L)) : wstOf out (xs ++ bs) = wstOf out xs + wstOf out bs := by
  induction xs with
  | nil => simp [wstOf]
  | cons a xs ih => simp only [List.cons_append, wstOf, ih]; omega
theorem wstOf_any {L : Nat} (out : List Int) (pre : List (BkOf L)) : wstOf out pre ≤ pre.length * L := by
  induction pre with
  | nil => simp [wstOf]
  | cons b pre ih =>
    have := b.2
    simp only [wstOf, List.length_cons, Nat.add_mul, Nat.one_mul]
    split <;> omega
theorem wstOf_yes {L : Nat} {out : List Int} {pre : List (BkOf L)} {x : BkOf L} (hq : x.1.kind ≠ 0) (h : ((x.1.at' : Nat) : Int) ∉ out) : wstOf out (pre ++ [x]) = wstOf out pre + x.1.size := by
  rw [wstOf_append]
  simp [wstOf, hq, h]
theorem wstOf_no {L : Nat} {out : List Int} {pre : List (BkOf L)} {x : BkOf L} (h : ¬ (x.1.kind ≠ 0 ∧ ((x.1.at' : Nat) : Int) ∉ out)) : wstOf out (pre ++ [x]) = wstOf out pre := by
  rw [wstOf_append]
  simp only [wstOf, if_neg h, Nat.add_zero]
theorem wstOf_take {zs : List Int} {j : Nat} (h : j < (blocks zs).length) : (blocks zs).take (j + 1) = (blocks zs).take j ++ [(blocks zs)[j]] := by
  rw [List.take_add_one, List.getElem?_eq_getElem h]
  rfl
theorem wstOf_bd {zs : List Int} (hz : zs.length ≤ 2000) (out : List Int) (j : Nat) : wstOf out ((blocks zs).take j) ≤ 2000000 := by
  have h0 := wstOf_any out ((blocks zs).take j)
  have h1 := blocks_count zs
  have h2 : ((blocks zs).take j).length * zs.length ≤ 1000 * 2000 := Nat.mul_le_mul (by rw [List.length_take]; omega) hz
  omega
/-- What Waste tells. -/
def wasteR (zs rs : List Int) : Nat := if rootsR zs rs = true then wstOf (ordL zs rs) (blocks zs) else 0
theorem rootsR_ok {zs rs : List Int} (h : rootsR zs rs = true) : slabOk zs = true := by
  unfold rootsR heapR at h
  simp only [Bool.and_eq_true] at h
  exact h.1.1
end Go.Proofs.Ytblonbdagidfjaa
