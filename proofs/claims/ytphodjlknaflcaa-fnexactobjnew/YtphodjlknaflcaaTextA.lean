/-
  The bytes of a text block, as a fact on lists; the contracts of chapter 4's models l4Bytes and TextOf.
-/
import Derived.Test.YtphodjlknaflcaaShapeQ
import Derived.Laws.BytesArg
import Derived.Maps.AppendAt
namespace Go.Proofs.Ytphodjlknaflcaa
open Go.RowKit
attribute [local go_sem] Plain.and7

/-- The bytes from place f on, n of them. -/
def bytesL (zs : List Int) (f n : Nat) : List Int := (List.range n).map (fun i => hz zs (f + i))
theorem bytesL_len (zs : List Int) (f n : Nat) : (bytesL zs f n).length = n := by simp [bytesL]
theorem bytesL_at {zs : List Int} {f n i : Nat} (h : i < n) : (bytesL zs f n).getD i 0 = hz zs (f + i) := by simp [bytesL, List.getD, h]
theorem bytesL_succ (zs : List Int) (f n : Nat) : bytesL zs f (n + 1) = bytesL zs f n ++ [hz zs (f + n)] := by simp [bytesL, List.range_succ]
def textL (zs : List Int) (a : Nat) : List Int := bytesL zs (a + 2) (hz zs (a + 1)).toNat
def textOfR (zs : List Int) (v : Int) : ByteArray := if v % 8 = 4 ∧ heapR zs = true ∧ leadsR zs v 0 = true then strOfNums (textL zs (v / 8).toNat) else ⟨#[]⟩

/-- A block of a right heap is right. -/
theorem heapR_blk {zs : List Int} (hh : heapR zs = true) {b : BkOf zs.length} (hb : b ∈ blocks zs) : blkR zs b.1.at' b.1.size b.1.kind = true := by
  unfold heapR at hh
  rw [Bool.and_eq_true] at hh
  exact List.all_eq_true.1 hh.2 b hb
/-- What a text block of a right heap holds. -/
theorem text_facts {zs : List Int} {b : BkOf zs.length} (hh : heapR zs = true) (hb : b ∈ blocks zs) (hk : b.1.kind = 1) :
    ∃ n : Nat, hz zs (b.1.at' + 1) = (n : Int) ∧ n + 2 ≤ b.1.size ∧ ∀ i, i < n → 0 ≤ hz zs (b.1.at' + 2 + i) ∧ hz zs (b.1.at' + 2 + i) ≤ 255 := by
  have h := heapR_blk hh hb
  rw [hk, blk_text] at h
  unfold textR at h
  simp only [Bool.and_eq_true, decide_eq_true_eq, bytesR_iff] at h
  obtain ⟨⟨⟨h0, h1⟩, _⟩, h2⟩ := h
  refine ⟨(hz zs (b.1.at' + 1)).toNat, by omega, by omega, h2⟩
theorem leads_text {zs : List Int} {v : Int} (h4 : v % 8 = 4) (hl : leadsR zs v 0 = true) : ∃ b : BkOf zs.length, atB zs (v / 8) = some b ∧ v / 8 = (b.1.at' : Int) ∧ b.1.kind = 1 ∧ b ∈ blocks zs := by
  unfold leadsR at hl
  simp only [Bool.and_eq_true, Bool.or_eq_true, decide_eq_true_eq, h4] at hl
  obtain ⟨_, hl | hl⟩ := hl
  · omega
  · simp only [wantK, if_true] at hl
    unfold kindAt at hl
    cases hb : atB zs (v / 8) with
    | none => rw [hb] at hl; simp at hl
    | some b =>
      rw [hb] at hl
      obtain ⟨_, e, _, _, _, hm⟩ := atB_some hb
      exact ⟨b, rfl, e.symm, by simp at hl; omega, hm⟩

end Go.Proofs.Ytphodjlknaflcaa
