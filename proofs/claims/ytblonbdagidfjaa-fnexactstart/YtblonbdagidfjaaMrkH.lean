/-
  Facts on lists: when a marker is right (chapter 8).
-/
import Derived.Test.YtblonbdagidfjaaMrkA
namespace Go.Proofs.Ytblonbdagidfjaa
open Go.RowKit

/-- A block that is free, black, or not ahead of a place. -/
def passB (bs : List Int) (at' : Int) (a kind : Nat) : Bool := decide (at' ≤ (a : Int)) || decide (kind = 0) || decide ((a : Int) ∈ bs)
def passR (zs bs : List Int) (at' : Int) : Bool := (blocks zs).all (fun b => passB bs at' b.1.at' b.1.kind)
/-- Ahead of k all blocks pass. -/
def Passed (zs bs : List Int) (at' : Int) (k : Nat) : Prop := ∃ pre, pre ++ blks zs k = blocks zs ∧ (∀ b ∈ pre, b.1.at' + b.1.size ≤ k) ∧ ∀ b ∈ pre, passB bs at' b.1.at' b.1.kind = true
theorem Passed.zero (zs bs : List Int) (at' : Int) : Passed zs bs at' 0 := ⟨[], rfl, by simp, by simp⟩
theorem Passed.next {zs bs : List Int} {at' : Int} {k : Nat} (h : Passed zs bs at' k) (hg : Good zs k) (hp : passB bs at' k (kd zs k) = true) : Passed zs bs at' (k + sz zs k) := by
  obtain ⟨pre, h1, h2, h3⟩ := h
  have hs2 := hg.sz2
  refine ⟨pre ++ [⟨⟨k, sz zs k, kd zs k⟩, hg.sz2, hg.le, hg.kd5⟩], ?_, fun b hb => ?_, fun b hb => ?_⟩
  · rw [← h1, blks_yes hg, List.append_assoc]; rfl
  · rcases List.mem_append.1 hb with h | h
    · have := h2 b h; omega
    · simp at h; subst h; exact Nat.le_refl _
  · rcases List.mem_append.1 hb with h | h
    · exact h3 b h
    · simp at h; subst h; exact hp
theorem blks_from (zs : List Int) : ∀ (k : Nat), ∀ b ∈ blks zs k, k ≤ b.1.at' := by
  intro k
  refine blks_ind zs (P := fun k => ∀ b ∈ blks zs k, k ≤ b.1.at') (fun k hg ih b hb => ?_) (fun k hg b hb => ?_) k
  · rw [blks_yes hg] at hb
    rcases List.mem_cons.1 hb with rfl | h
    · exact Nat.le_refl _
    · have := ih b h; omega
  · rw [blks_no hg] at hb; simp at hb
theorem Passed.ends {zs bs : List Int} {at' : Int} {k : Nat} (h : Passed zs bs at' k) (hk : at' ≤ (k : Int)) : passR zs bs at' = true := by
  obtain ⟨pre, h1, _, h3⟩ := h
  unfold passR
  rw [← h1, List.all_append, Bool.and_eq_true, List.all_eq_true, List.all_eq_true]
  refine ⟨h3, fun b hb => ?_⟩
  have := blks_from zs k b hb
  unfold passB
  have hd : decide (at' ≤ (b.1.at' : Int)) = true := by simp; omega
  rw [hd]
  rfl
theorem Passed.fails {zs bs : List Int} {at' : Int} {k : Nat} (h : Passed zs bs at' k) (hg : Good zs k) (hp : passB bs at' k (kd zs k) = false) : passR zs bs at' = false := by
  obtain ⟨pre, h1, _, _⟩ := h
  cases hq : passR zs bs at' with
  | false => rfl
  | true =>
    unfold passR at hq
    have := List.all_eq_true.1 hq ⟨⟨k, sz zs k, kd zs k⟩, hg.sz2, hg.le, hg.kd5⟩ (by rw [← h1, blks_yes hg]; simp)
    rw [hp] at this
    cases this
/-- A value leads to nothing, or to one of these. -/
def amongV (bs : List Int) (v : Int) : Bool := decide (blkV v < 0) || decide (blkV v ∈ bs)
/-- A black block is right, and leads to black ones alone. -/
def holdR (zs bs : List Int) (a : Int) : Bool := blkR zs a.toNat (sz zs a.toNat) (kd zs a.toNat) && (slotV zs a).all (amongV bs)
def sweptR (zs gs bs : List Int) (at' : Int) : Bool := decide (gs = []) && (decide (at' = (zs.length : Int)) || isAt zs at') && passR zs bs at' && bs.all (holdR zs bs)
/-- What MarkerOk asks of black places beside that they are places. -/
def blackB (gs bs : List Int) (i : Nat) : Bool := !decide (hz bs i ∈ gs) && (decide (i = 0) || decide (hz bs (i - 1) ≤ hz bs i))
def blackR (gs bs : List Int) : Bool := allR (blackB gs bs) bs.length
/-- What MarkerOk tells. -/
def markR (zs : List Int) (ph : Int) (gs bs : List Int) (at' : Int) : Bool :=
  slabOk zs && decide (0 ≤ ph ∧ ph ≤ 2) && placesR zs gs && placesR zs bs && blackR gs bs &&
    (if ph = 0 then decide (gs = [] ∧ bs = []) && decide (at' = 0) && heapR zs else if ph = 1 then decide (at' = 0) && heapR zs else sweptR zs gs bs at')
theorem slL_at {zs : List Int} {n : Nat} (hg : Good zs n) {i : Nat} (hi : i < (slL n (kd zs n) (sz zs n)).length) : ∃ p : Nat, hz (slL n (kd zs n) (sz zs n)) i = p ∧ p < zs.length := by
  have hle := hg.le
  unfold slL at hi ⊢
  rw [someL_len] at hi
  refine ⟨n + slOff (kd zs n) + i, ?_, by omega⟩
  unfold hz someL
  rw [List.getElem?_map, List.getElem?_range hi]
  rfl
end Go.Proofs.Ytblonbdagidfjaa
