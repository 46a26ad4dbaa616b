/-
  Facts on lists: sliding (chapter 10's models): the place that a block gets, values that go along, the words that are slid.
-/
import Derived.Test.YthloammkgogceaaBndP
import Derived.Test.YthloammkgogceaaRchP
namespace Go.Proofs.Ythloammkgogceaa
open Go.RowKit

/-- How many words blocks have that are not free, ahead of a place. -/
def movF (zs : List Int) (a : Nat) : Nat → Nat → Nat → Nat
  | 0, _, to' => to'
  | n + 1, k, to' => if k < a then movF zs a n (k + sz zs k) (if kd zs k ≠ 0 then to' + sz zs k else to') else to'
def movT (zs : List Int) (a : Nat) : Nat := movF zs a (zs.length + 1) 0 0
theorem movF_on {zs : List Int} {a n k t : Nat} (h : k < a) : movF zs a (n + 1) k t = movF zs a n (k + sz zs k) (if kd zs k ≠ 0 then t + sz zs k else t) := by simp [movF, h]
theorem movF_end {zs : List Int} {a k t : Nat} (h : ¬ k < a) : ∀ n, movF zs a n k t = t
  | 0 => rfl
  | n + 1 => by simp [movF, h]
/-- A value with its block's new place. -/
def movV (zs : List Int) (v : Int) : Int := if v % 8 < 4 then v else 8 * (movT zs (v / 8).toNat : Nat) + v % 8
/-- A word of a block, slid. -/
def movW (zs : List Int) (a k : Nat) : Int := if ((a + k : Nat) : Int) ∈ slotsL zs a then movV zs (hz zs (a + k)) else hz zs (a + k)
def blkW (zs : List Int) (a n : Nat) : List Int := (List.range n).map (movW zs a)
theorem blkW_len (zs : List Int) (a n : Nat) : (blkW zs a n).length = n := by simp [blkW]
theorem blkW_succ (zs : List Int) (a n : Nat) : blkW zs a (n + 1) = blkW zs a n ++ [movW zs a n] := by simp [blkW, List.range_succ]
/-- The words of the blocks that are not free, one behind the other. -/
def slidW {L : Nat} (zs : List Int) : List (BkOf L) → List Int
  | [] => []
  | b :: r => (if b.1.kind ≠ 0 then blkW zs b.1.at' b.1.size else []) ++ slidW zs r
theorem slidW_app {L : Nat} (zs : List Int) (xs ys : List (BkOf L)) : slidW zs (xs ++ ys) = slidW zs xs ++ slidW zs ys := by
  induction xs with
  | nil => simp [slidW]
  | cons x xs ih => simp only [List.cons_append, slidW, ih, List.append_assoc]
/-- What is left over: one free block. -/
def restW (r j : Nat) : List Int := (List.range j).map (fun k => if k = 0 then 8 * (r : Int) else 0)
theorem restW_succ (r j : Nat) : restW r (j + 1) = restW r j ++ [if j = 0 then 8 * (r : Int) else 0] := by simp [restW, List.range_succ]
theorem restW_len (r j : Nat) : (restW r j).length = j := by simp [restW]
def slidL (zs : List Int) : List Int := slidW zs (blocks zs) ++ restW (zs.length - (slidW zs (blocks zs)).length) (zs.length - (slidW zs (blocks zs)).length)
/-- What Slide tells. -/
def slideC (zs rs : List Int) : List Int × List Int := if rootsR zs rs = true then (slidL zs, rs.map (movV zs)) else ([], [])
theorem movF_le {zs : List Int} {a : Nat} (ha : a ≤ zs.length) : ∀ (n k t : Nat), Bnd zs k → t ≤ k → movF zs a n k t ≤ zs.length
  | 0, k, t, h, ht => by have := h.le; simp only [movF]; omega
  | n + 1, k, t, h, ht => by
    by_cases hk : k < a
    · rw [movF_on hk]
      obtain ⟨hg, hb⟩ := h.good (by omega)
      exact movF_le ha n _ _ hb (by split <;> omega)
    · rw [movF_end hk]
      have := h.le
      omega
theorem movT_le {zs : List Int} {a : Nat} (hok : slabOk zs = true) (ha : a ≤ zs.length) : movT zs a ≤ zs.length := movF_le ha _ 0 0 (Bnd.zero hok) (Nat.le_refl _)
theorem slidW_blks (zs : List Int) (k : Nat) (hk : k ≤ zs.length) : k + (slidW zs (blks zs k)).length ≤ zs.length := by
  refine blks_ind zs (P := fun k => k ≤ zs.length → k + (slidW zs (blks zs k)).length ≤ zs.length) (fun k h ih hk => ?_) (fun k h hk => by rw [blks_no h]; simpa [slidW] using hk) k hk
  rw [blks_yes h]
  have h1 := ih h.le
  simp only [slidW, List.length_append]
  split
  · rw [blkW_len]; omega
  · simp only [List.length_nil]; omega
theorem slidW_le (zs : List Int) : (slidW zs (blocks zs)).length ≤ zs.length := by
  have := slidW_blks zs 0 (Nat.zero_le _)
  rw [show blks zs 0 = blocks zs from rfl] at this
  omega
theorem slidW_pre {zs : List Int} (j : Nat) : (slidW zs ((blocks zs).take j)).length ≤ zs.length := by
  have h := slidW_le zs
  rw [← List.take_append_drop j (blocks zs), slidW_app, List.length_append] at h
  omega
theorem slidW_next {zs : List Int} {j : Nat} (h : j < (blocks zs).length) : slidW zs ((blocks zs).take (j + 1)) = slidW zs ((blocks zs).take j) ++ (if ((blocks zs)[j]).1.kind ≠ 0 then blkW zs ((blocks zs)[j]).1.at' ((blocks zs)[j]).1.size else []) := by
  rw [List.take_add_one, List.getElem?_eq_getElem h]
  simp only [Option.toList_some, slidW_app, slidW, List.append_nil]
theorem movV_in {zs : List Int} {v : Int} (hok : slabOk zs = true) (hv : -9223372036854775808 ≤ v ∧ v ≤ 9223372036854775807) (hp : ¬ v % 8 < 4 → v / 8 ≤ (zs.length : Int)) : -9223372036854775808 ≤ movV zs v ∧ movV zs v ≤ 9223372036854775807 := by
  unfold movV
  split
  · exact hv
  · rename_i h
    have h1 := hp h
    have h2 := movT_le (a := (v / 8).toNat) hok (by omega)
    have h3 := slabOk_len hok
    omega
end Go.Proofs.Ythloammkgogceaa
