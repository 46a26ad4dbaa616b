/-
  The contracts of chapter 8's models l8Places and l8Insert.
  Facts on lists: when a marker is right (chapter 8).
  The contract of chapter 8's model l8Swept.
  The contract of chapter 8's model MarkerOk.
  The contract of chapter 8's model TriOk.
-/
import Derived.Laws.AppendOwnNone
import Derived.Deep.RegionHeld3
import Derived.Deep.CutRange
import Derived.Test.YtpljjeknphnnpaaGreatGrpSB
import Derived.Test.YtpljjeknphnnpaaGreatShapeO
import Derived.Test.YtpljjeknphnnpaaGreatShapeB
import Derived.Test.YtpljjeknphnnpaaGreatShapeQ
namespace Go.Proofs.YtpljjeknphnnpaaGreat
open Go.RowKit
attribute [local go_sem] Plain.and7

def plAt (zs l : List Int) (i : Nat) : Bool := decide (1 ≤ kindAt zs (hz l i)) && !decide (hz l i ∈ l.take i)
/-- Places of blocks that are not free, none twice. -/
def placesR (zs l : List Int) : Bool := allR (plAt zs l) l.length
theorem hz_get {l : List Int} {i : Nat} (h : i < l.length) : hz l i = l[i] := by unfold hz; rw [List.getElem?_eq_getElem h]; rfl
theorem places_iff {zs l : List Int} : placesR zs l = true ↔ Met zs l := by
  unfold placesR
  rw [allR_iff]
  constructor
  · intro h
    refine ⟨List.pairwise_iff_getElem.2 fun i j hi hj hij e => ?_, fun a ha => ?_⟩
    · have := h j hj
      unfold plAt at this
      simp only [Bool.and_eq_true, Bool.not_eq_true', decide_eq_false_iff_not] at this
      refine this.2 ?_
      rw [hz_get hj, ← e]
      exact List.mem_take_iff_getElem.2 ⟨i, by omega, rfl⟩
    · obtain ⟨i, hi, e⟩ := List.getElem_of_mem ha
      have := h i hi
      unfold plAt at this
      simp only [Bool.and_eq_true, decide_eq_true_eq] at this
      rw [hz_get hi, e] at this
      exact this.1
  · intro h i hi
    unfold plAt
    simp only [Bool.and_eq_true, Bool.not_eq_true', decide_eq_true_eq, decide_eq_false_iff_not]
    refine ⟨h.2 _ (hz_mem hi), fun hm => ?_⟩
    obtain ⟨j, hj, e⟩ := List.mem_take_iff_getElem.1 hm
    rw [hz_get hi] at e
    have := List.pairwise_iff_getElem.1 h.1 j i (by omega) hi (by omega)
    exact this e
theorem isAt_kind {zs : List Int} {x : Int} (h : isAt zs x = true) : ∃ p : Nat, x = p ∧ p < zs.length ∧ kindAt zs x = hz zs p % 8 := by
  unfold isAt at h
  cases hb : atB zs x with
  | none => rw [hb] at h; cases h
  | some b =>
    obtain ⟨_, e, hg, _, hk, _⟩ := atB_some hb
    refine ⟨b.1.at', e.symm, hg.lt, ?_⟩
    unfold kindAt
    rw [hb, ← kdI, ← hk]
theorem isAt_no {zs : List Int} {x : Int} (h : isAt zs x = false) : ¬ 1 ≤ kindAt zs x := by
  unfold isAt at h
  cases hb : atB zs x with
  | none => unfold kindAt; rw [hb]; simp
  | some b => rw [hb] at h; cases h
theorem placesR_no {zs l : List Int} {k : Nat} (hk : k < l.length) (h : plAt zs l k = false) : placesR zs l = false := by
  cases hp : placesR zs l with
  | false => rfl
  | true =>
    have := allR_iff.1 hp k hk
    rw [h] at this
    cases this
end Go.Proofs.YtpljjeknphnnpaaGreat
namespace Go.Proofs.YtpljjeknphnnpaaGreat
open Go.RowKit

/-- A block that is free, black, or not ahead of a place. -/
def passB (bs : List Int) (at' : Int) (a kind : Nat) : Bool := decide (at' ≤ (a : Int)) || decide (kind = 0) || decide ((a : Int) ∈ bs)
def passR (zs bs : List Int) (at' : Int) : Bool := (blocks zs).all (fun b => passB bs at' b.1.at' b.1.kind)
/-- Ahead of k all blocks pass. -/
def Passed (zs bs : List Int) (at' : Int) (k : Nat) : Prop := ∃ pre, pre ++ blks zs k = blocks zs ∧ (∀ b ∈ pre, b.1.at' + b.1.size ≤ k) ∧ ∀ b ∈ pre, passB bs at' b.1.at' b.1.kind = true
theorem Passed.zero (zs bs : List Int) (at' : Int) : Passed zs bs at' 0 := ⟨[], rfl, by simp, by simp⟩
theorem Passed.next {zs bs : List Int} {at' : Int} {k : Nat} (h : Passed zs bs at' k) (hg : Good zs k) (hp : passB bs at' k (kd zs k) = true) : Passed zs bs at' (k + sz zs k) := by
  obtain ⟨pre, h1, h2, h3⟩ := h
  have hs2 := hg.sz2
  refine ⟨pre ++ [⟨⟨k, sz zs k, kd zs k⟩, hg.sz2, hg.le, hg.kd5⟩], ?_, fun b hb => ?_, fun b hb => ?_⟩
  · rw [← h1, blks_yes hg, List.append_assoc]; rfl
  · rcases List.mem_append.1 hb with h | h
    · have := h2 b h; omega
    · simp at h; subst h; exact Nat.le_refl _
  · rcases List.mem_append.1 hb with h | h
    · exact h3 b h
    · simp at h; subst h; exact hp
theorem blks_from (zs : List Int) : ∀ (k : Nat), ∀ b ∈ blks zs k, k ≤ b.1.at' := by
  intro k
  refine blks_ind zs (P := fun k => ∀ b ∈ blks zs k, k ≤ b.1.at') (fun k hg ih b hb => ?_) (fun k hg b hb => ?_) k
  · rw [blks_yes hg] at hb
    rcases List.mem_cons.1 hb with rfl | h
    · exact Nat.le_refl _
    · have := ih b h; omega
  · rw [blks_no hg] at hb; simp at hb
theorem Passed.ends {zs bs : List Int} {at' : Int} {k : Nat} (h : Passed zs bs at' k) (hk : at' ≤ (k : Int)) : passR zs bs at' = true := by
  obtain ⟨pre, h1, _, h3⟩ := h
  unfold passR
  rw [← h1, List.all_append, Bool.and_eq_true, List.all_eq_true, List.all_eq_true]
  refine ⟨h3, fun b hb => ?_⟩
  have := blks_from zs k b hb
  unfold passB
  have hd : decide (at' ≤ (b.1.at' : Int)) = true := by simp; omega
  rw [hd]
  rfl
theorem Passed.fails {zs bs : List Int} {at' : Int} {k : Nat} (h : Passed zs bs at' k) (hg : Good zs k) (hp : passB bs at' k (kd zs k) = false) : passR zs bs at' = false := by
  obtain ⟨pre, h1, _, _⟩ := h
  cases hq : passR zs bs at' with
  | false => rfl
  | true =>
    unfold passR at hq
    have := List.all_eq_true.1 hq ⟨⟨k, sz zs k, kd zs k⟩, hg.sz2, hg.le, hg.kd5⟩ (by rw [← h1, blks_yes hg]; simp)
    rw [hp] at this
    cases this
/-- A value leads to nothing, or to one of these. -/
def amongV (bs : List Int) (v : Int) : Bool := decide (blkV v < 0) || decide (blkV v ∈ bs)
/-- A black block is right, and leads to black ones alone. -/
def holdR (zs bs : List Int) (a : Int) : Bool := blkR zs a.toNat (sz zs a.toNat) (kd zs a.toNat) && (slotV zs a).all (amongV bs)
def sweptR (zs gs bs : List Int) (at' : Int) : Bool := decide (gs = []) && (decide (at' = (zs.length : Int)) || isAt zs at') && passR zs bs at' && bs.all (holdR zs bs)
/-- What MarkerOk asks of black places beside that they are places. -/
def blackB (gs bs : List Int) (i : Nat) : Bool := !decide (hz bs i ∈ gs) && (decide (i = 0) || decide (hz bs (i - 1) ≤ hz bs i))
def blackR (gs bs : List Int) : Bool := allR (blackB gs bs) bs.length
/-- What MarkerOk tells. -/
def markR (zs : List Int) (ph : Int) (gs bs : List Int) (at' : Int) : Bool :=
  slabOk zs && decide (0 ≤ ph ∧ ph ≤ 2) && placesR zs gs && placesR zs bs && blackR gs bs &&
    (if ph = 0 then decide (gs = [] ∧ bs = []) && decide (at' = 0) && heapR zs else if ph = 1 then decide (at' = 0) && heapR zs else sweptR zs gs bs at')
theorem slL_at {zs : List Int} {n : Nat} (hg : Good zs n) {i : Nat} (hi : i < (slL n (kd zs n) (sz zs n)).length) : ∃ p : Nat, hz (slL n (kd zs n) (sz zs n)) i = p ∧ p < zs.length := by
  have hle := hg.le
  unfold slL at hi ⊢
  rw [someL_len] at hi
  refine ⟨n + slOff (kd zs n) + i, ?_, by omega⟩
  unfold hz someL
  rw [List.getElem?_map, List.getElem?_range hi]
  rfl
end Go.Proofs.YtpljjeknphnnpaaGreat
namespace Go.Proofs.YtpljjeknphnnpaaGreat
open Go.RowKit
attribute [local go_sem] Plain.and7

theorem isAt_le {zs : List Int} {x : Int} (h : isAt zs x = true) : 0 ≤ x ∧ x ≤ (zs.length : Int) := by
  obtain ⟨p, e, hp, _⟩ := isAt_kind h
  omega
theorem holds_no {zs bs l : List Int} {k : Nat} (hk : k < l.length) (h : holdR zs bs (hz l k) = false) : l.all (holdR zs bs) = false := by
  cases hq : l.all (holdR zs bs) with
  | false => rfl
  | true =>
    have := List.all_eq_true.1 hq _ (hz_mem hk)
    rw [h] at this
    cases this
theorem holds_yes {zs bs l : List Int} (h : ∀ j, j < l.length → holdR zs bs (hz l j) = true) : l.all (holdR zs bs) = true := by
  rw [List.all_eq_true]
  intro x hx
  obtain ⟨j, hj, e⟩ := List.getElem_of_mem hx
  have := h j hj
  rw [hz_get hj, e] at this
  exact this
theorem among_no {bs l : List Int} {k : Nat} (hk : k < l.length) (h : amongV bs (hz l k) = false) : l.all (amongV bs) = false := by
  cases hq : l.all (amongV bs) with
  | false => rfl
  | true =>
    have := List.all_eq_true.1 hq _ (hz_mem hk)
    rw [h] at this
    cases this
theorem among_yes {bs l : List Int} (h : ∀ j, j < l.length → amongV bs (hz l j) = true) : l.all (amongV bs) = true := by
  rw [List.all_eq_true]
  intro x hx
  obtain ⟨j, hj, e⟩ := List.getElem_of_mem hx
  have := h j hj
  rw [hz_get hj, e] at this
  exact this
end Go.Proofs.YtpljjeknphnnpaaGreat
namespace Go.Proofs.YtpljjeknphnnpaaGreat
open Go.RowKit
attribute [local go_sem] Plain.and7

theorem blackR_no {gs bs : List Int} {k : Nat} (hk : k < bs.length) (h : blackB gs bs k = false) : blackR gs bs = false := by
  cases hq : blackR gs bs with
  | false => rfl
  | true =>
    have := allR_iff.1 hq k hk
    rw [h] at this
    cases this
/-- A marker whose lists are read. -/
structure MkI (W : World) (ga ba : Option Addr) (gc bc : Nat) (gs bs : List Int) : Prop where
  g : Ints W ga gs
  b : Ints W ba bs
  gl : gs.length ≤ 1048576
  bl : bs.length ≤ 1048576
  gc : gs.length ≤ gc
  bc : bs.length ≤ bc
theorem MkI.kept {W W' : World} {ga ba : Option Addr} {gc bc : Nat} {gs bs : List Int} (h : MkI W ga ba gc bc gs bs) (hk : Kept W W') : MkI W' ga ba gc bc gs bs := ⟨h.g.kept hk, h.b.kept hk, h.gl, h.bl, h.gc, h.bc⟩
end Go.Proofs.YtpljjeknphnnpaaGreat
namespace Go.Proofs.YtpljjeknphnnpaaGreat
open Go.RowKit
attribute [local go_sem] Plain.and7

/-- A value leads to nothing, or to one that was met. -/
def metV (gs bs : List Int) (v : Int) : Bool := decide (blkV v < 0) || decide (blkV v ∈ gs) || decide (blkV v ∈ bs)
def triB (zs gs bs : List Int) (a : Int) : Bool := (slotV zs a).all (metV gs bs)
/-- What TriOk tells. -/
def triR (zs : List Int) (ph : Int) (gs bs : List Int) (at' : Int) : Bool := markR zs ph gs bs at' && (!decide (ph = 1) || bs.all (triB zs gs bs))
theorem tri_no {zs gs bs l : List Int} {k : Nat} (hk : k < l.length) (h : triB zs gs bs (hz l k) = false) : l.all (triB zs gs bs) = false := by
  cases hq : l.all (triB zs gs bs) with
  | false => rfl
  | true =>
    have := List.all_eq_true.1 hq _ (hz_mem hk)
    rw [h] at this
    cases this
theorem tri_yes {zs gs bs l : List Int} (h : ∀ j, j < l.length → triB zs gs bs (hz l j) = true) : l.all (triB zs gs bs) = true := by
  rw [List.all_eq_true]
  intro x hx
  obtain ⟨j, hj, e⟩ := List.getElem_of_mem hx
  have := h j hj
  rw [hz_get hj, e] at this
  exact this
theorem metV_no {gs bs l : List Int} {k : Nat} (hk : k < l.length) (h : metV gs bs (hz l k) = false) : l.all (metV gs bs) = false := by
  cases hq : l.all (metV gs bs) with
  | false => rfl
  | true =>
    have := List.all_eq_true.1 hq _ (hz_mem hk)
    rw [h] at this
    cases this
theorem metV_yes {gs bs l : List Int} (h : ∀ j, j < l.length → metV gs bs (hz l j) = true) : l.all (metV gs bs) = true := by
  rw [List.all_eq_true]
  intro x hx
  obtain ⟨j, hj, e⟩ := List.getElem_of_mem hx
  have := h j hj
  rw [hz_get hj, e] at this
  exact this
theorem markR_met {zs gs bs : List Int} {ph at' : Int} (h : markR zs ph gs bs at' = true) : slabOk zs = true ∧ Met zs gs ∧ Met zs bs ∧ (0 ≤ ph ∧ ph ≤ 2) := by
  unfold markR at h
  simp only [Bool.and_eq_true, decide_eq_true_eq] at h
  exact ⟨h.1.1.1.1.1, places_iff.1 h.1.1.1.2, places_iff.1 h.1.1.2, h.1.1.1.1.2⟩
theorem markR_heap {zs gs bs : List Int} {at' : Int} (h : markR zs 1 gs bs at' = true) : heapR zs = true := by
  unfold markR at h
  simp at h
  exact h.2.2
end Go.Proofs.YtpljjeknphnnpaaGreat
