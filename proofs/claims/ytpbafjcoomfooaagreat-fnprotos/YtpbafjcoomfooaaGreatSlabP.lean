/-
  Slabs as lists of whole numbers, with no program in sight: which blocks lie in them, where the last one ends, whether a slab is right.
-/
import Derived.Laws.BitsLemmas
import Derived.RowKit
namespace Go.Proofs.YtpbafjcoomfooaaGreat

/-- A block: where it lies, how many words it has, its kind. -/
structure Bk where
  at' : Nat
  size : Nat
  kind : Nat

abbrev BkOf (L : Nat) := { b : Bk // 2 ≤ b.size ∧ b.at' + b.size ≤ L ∧ b.kind ≤ 5 }

def hz (zs : List Int) (k : Nat) : Int := zs[k]?.getD 0

theorem hz_take {zs : List Int} {n j : Nat} (h : j < n) : hz (zs.take n) j = zs[j]?.getD 0 := by simp [hz, h]

/-- At k there is a block. -/
def Good (zs : List Int) (k : Nat) : Prop := k < zs.length ∧ hz zs k % 8 ≤ 5 ∧ 2 ≤ hz zs k / 8 ∧ (k : Int) + hz zs k / 8 ≤ (zs.length : Int)
instance (zs : List Int) (k : Nat) : Decidable (Good zs k) := by unfold Good; infer_instance

/-- How many words the block at k has. -/
def sz (zs : List Int) (k : Nat) : Nat := (hz zs k / 8).toNat
def kd (zs : List Int) (k : Nat) : Nat := (hz zs k % 8).toNat

theorem Good.lt {zs : List Int} {k : Nat} (h : Good zs k) : k < zs.length := h.1
theorem Good.sz2 {zs : List Int} {k : Nat} (h : Good zs k) : 2 ≤ sz zs k := by have := h.2.2.1; unfold sz; omega
theorem Good.kd5 {zs : List Int} {k : Nat} (h : Good zs k) : kd zs k ≤ 5 := by have := h.2.1; unfold kd; omega
theorem Good.le {zs : List Int} {k : Nat} (h : Good zs k) : k + sz zs k ≤ zs.length := by have := h.2.2; unfold sz; omega
theorem Good.szI {zs : List Int} {k : Nat} (h : Good zs k) : (sz zs k : Int) = hz zs k / 8 := by have := h.2.2.1; unfold sz; omega
theorem kdI (zs : List Int) (k : Nat) : (kd zs k : Int) = hz zs k % 8 := by unfold kd; omega

/-- The blocks from place k on, up to words that are none. -/
def blks (zs : List Int) (k : Nat) : List (BkOf zs.length) :=
  if h : Good zs k then ⟨⟨k, sz zs k, kd zs k⟩, h.sz2, h.le, h.kd5⟩ :: blks zs (k + sz zs k) else []
termination_by zs.length - k
decreasing_by have := h.sz2; have := h.lt; omega

/-- Where the blocks from place k on end. -/
def stop (zs : List Int) (k : Nat) : Nat :=
  if _h : Good zs k then stop zs (k + sz zs k) else k
termination_by zs.length - k
decreasing_by have := _h.sz2; have := _h.lt; omega

theorem blks_yes {zs : List Int} {k : Nat} (h : Good zs k) : blks zs k = ⟨⟨k, sz zs k, kd zs k⟩, h.sz2, h.le, h.kd5⟩ :: blks zs (k + sz zs k) := by rw [blks, dif_pos h]
theorem blks_no {zs : List Int} {k : Nat} (h : ¬ Good zs k) : blks zs k = [] := by rw [blks, dif_neg h]
theorem stop_yes {zs : List Int} {k : Nat} (h : Good zs k) : stop zs k = stop zs (k + sz zs k) := by rw [stop, dif_pos h]
theorem stop_no {zs : List Int} {k : Nat} (h : ¬ Good zs k) : stop zs k = k := by rw [stop, dif_neg h]

/-- Induction along the blocks. -/
theorem blks_ind (zs : List Int) {P : Nat → Prop} (yes : ∀ k, Good zs k → P (k + sz zs k) → P k) (no : ∀ k, ¬ Good zs k → P k) (k : Nat) : P k := by
  induction hn : zs.length - k using Nat.strongRecOn generalizing k with
  | _ n ih =>
    by_cases h : Good zs k
    · exact yes k h (ih _ (by have := h.sz2; have := h.lt; omega) _ rfl)
    · exact no k h

theorem stop_ge (zs : List Int) (k : Nat) : k ≤ stop zs k :=
  blks_ind zs (P := fun k => k ≤ stop zs k) (fun k h ih => by rw [stop_yes h]; omega) (fun k h => by rw [stop_no h]; exact Nat.le_refl _) k
theorem stop_le (zs : List Int) (k : Nat) (hk : k ≤ zs.length) : stop zs k ≤ zs.length := by
  refine blks_ind zs (P := fun k => k ≤ zs.length → stop zs k ≤ zs.length) (fun k h ih hk => by rw [stop_yes h]; exact ih h.le) (fun k h hk => by rw [stop_no h]; exact hk) k hk

def endOf {L : Nat} (d : Nat) : List (BkOf L) → Nat
  | [] => d
  | b :: bs => endOf (b.1.at' + b.1.size) bs
theorem endOf_snoc {L : Nat} (d : Nat) (bs : List (BkOf L)) (b : BkOf L) : endOf d (bs ++ [b]) = b.1.at' + b.1.size := by
  induction bs generalizing d with
  | nil => rfl
  | cons c cs ih => exact ih _
theorem endOf_blks (zs : List Int) (k : Nat) : endOf k (blks zs k) = stop zs k :=
  blks_ind zs (P := fun k => endOf k (blks zs k) = stop zs k) (fun k h ih => by rw [blks_yes h, stop_yes h]; exact ih) (fun k h => by rw [blks_no h, stop_no h]; rfl) k

/-- The slab is right. -/
def slabOk (zs : List Int) : Bool := decide (zs.length ≤ 2000) && decide (stop zs 0 = zs.length)
theorem slabOk_iff {zs : List Int} : slabOk zs = true ↔ zs.length ≤ 2000 ∧ stop zs 0 = zs.length := by simp [slabOk]
def blocks (zs : List Int) : List (BkOf zs.length) := blks zs 0

/-- k is reached from the first block on. -/
def At (zs : List Int) (k : Nat) : Prop := stop zs k = stop zs 0 ∧ k ≤ zs.length ∧ ∃ pre, pre ++ blks zs k = blocks zs ∧ ∀ b ∈ pre, b.1.at' + b.1.size ≤ k
theorem At.zero (zs : List Int) : At zs 0 := ⟨rfl, Nat.zero_le _, [], rfl, by simp⟩
theorem At.next {zs : List Int} {k : Nat} (h : At zs k) (hg : Good zs k) : At zs (k + sz zs k) := by
  obtain ⟨h1, _, pre, h2, h3⟩ := h
  refine ⟨by rw [← h1, stop_yes hg], hg.le, pre ++ [⟨⟨k, sz zs k, kd zs k⟩, hg.sz2, hg.le, hg.kd5⟩], ?_, ?_⟩
  · rw [← h2, blks_yes hg, List.append_assoc]; rfl
  · intro b hb
    rcases List.mem_append.1 hb with hb | hb
    · have := h3 b hb; omega
    · simp at hb; subst hb; simp
theorem At.good {zs : List Int} {k : Nat} (h : At zs k) (hok : slabOk zs = true) (hk : k < zs.length) : Good zs k := by
  by_cases hg : Good zs k
  · exact hg
  · have h1 := h.1; rw [stop_no hg] at h1; have := (slabOk_iff.1 hok).2; omega
/-- Words that are no block at a place that is reached: the slab is not right. -/
theorem At.bad {zs : List Int} {k : Nat} (h : At zs k) (hk : k < zs.length) (hg : ¬ Good zs k) : slabOk zs = false := by
  cases ho : slabOk zs with
  | false => rfl
  | true => exact absurd (h.good ho hk) hg
theorem At.whole {zs : List Int} (h : At zs zs.length) : slabOk zs = decide (zs.length ≤ 2000) := by
  have h1 : ¬ Good zs zs.length := fun h => Nat.lt_irrefl _ h.lt
  have h2 : stop zs 0 = zs.length := by rw [← h.1, stop_no h1]
  simp [slabOk, h2]
theorem blks_at_ge (zs : List Int) (k : Nat) : ∀ b ∈ blks zs k, k ≤ b.1.at' :=
  blks_ind zs (P := fun k => ∀ b ∈ blks zs k, k ≤ b.1.at') (fun k h ih => by
    rw [blks_yes h]
    intro b hb
    rcases List.mem_cons.1 hb with rfl | hb
    · exact Nat.le_refl _
    · have := ih b hb; omega) (fun k h => by rw [blks_no h]; simp) k

/-- The block that begins at place a. -/
def atB (zs : List Int) (a : Int) : Option (BkOf zs.length) := if slabOk zs then (blocks zs).find? (fun b => decide ((b.1.at' : Int) = a)) else none
def kindAt (zs : List Int) (a : Int) : Int := match atB zs a with | some b => b.1.kind | none => -1
def sizeAt (zs : List Int) (a : Int) : Int := match atB zs a with | some b => b.1.size | none => 0
theorem At.found {zs : List Int} {k : Nat} (h : At zs k) (hok : slabOk zs = true) (hk : k < zs.length) : ∃ hp, atB zs k = some ⟨⟨k, sz zs k, kd zs k⟩, hp⟩ := by
  have hg := h.good hok hk
  refine ⟨⟨hg.sz2, hg.le, hg.kd5⟩, ?_⟩
  obtain ⟨_, _, pre, h2, h3⟩ := h
  rw [atB, if_pos hok, ← h2, blks_yes hg, List.find?_append]
  have : pre.find? (fun b => decide ((b.1.at' : Int) = (k : Int))) = none := by
    rw [List.find?_eq_none]
    intro b hb
    have := h3 b hb; have := b.2.1
    simp; omega
  rw [this]
  simp
theorem At.missed {zs : List Int} {k : Nat} {a : Int} (h : At zs k) (hb : a < k) (ha : ∀ b ∈ (blocks zs), b.1.at' + b.1.size ≤ k → (b.1.at' : Int) ≠ a) : atB zs a = none := by
  obtain ⟨_, _, pre, h2, h3⟩ := h
  unfold atB
  split
  · rw [List.find?_eq_none]
    intro b hb'
    rw [← h2] at hb'
    have hb'' := hb'
    rw [h2] at hb''
    rcases List.mem_append.1 hb' with hb' | hb'
    · simpa using ha b hb'' (h3 b hb')
    · have := blks_at_ge zs k b hb'; simp; omega
  · rfl

theorem blks_sorted (zs : List Int) (k : Nat) : (blks zs k).Pairwise (fun b c => b.1.at' < c.1.at') :=
  blks_ind zs (P := fun k => (blks zs k).Pairwise (fun b c => b.1.at' < c.1.at')) (fun k h ih => by
    rw [blks_yes h]
    refine List.pairwise_cons.2 ⟨fun b hb => ?_, ih⟩
    have := blks_at_ge zs _ b hb; have := h.sz2
    show k < b.1.at'
    omega) (fun k h => by rw [blks_no h]; exact List.Pairwise.nil) k
theorem find_hit {zs : List Int} {a : Int} {pre : List (BkOf zs.length)} {x : BkOf zs.length} (hok : slabOk zs = true) (hp : pre ++ [x] <+: blocks zs) (hb : ∀ b ∈ pre, (b.1.at' : Int) < a) (hx : (x.1.at' : Int) = a) : atB zs a = some x := by
  obtain ⟨rest, e⟩ := hp
  rw [atB, if_pos hok, ← e, List.append_assoc, List.find?_append]
  have : pre.find? (fun b => decide ((b.1.at' : Int) = a)) = none := by
    rw [List.find?_eq_none]
    intro b h; have := hb b h; simp; omega
  rw [this]
  simp [hx]
theorem find_past {zs : List Int} {a : Int} {pre : List (BkOf zs.length)} {x : BkOf zs.length} (hp : pre ++ [x] <+: blocks zs) (hb : ∀ b ∈ pre, (b.1.at' : Int) < a) (hx : a < (x.1.at' : Int)) : atB zs a = none := by
  obtain ⟨rest, e⟩ := hp
  unfold atB
  split
  · rw [List.find?_eq_none]
    intro b h
    rw [← e, List.append_assoc] at h
    have hs := blks_sorted zs 0
    rw [show blks zs 0 = blocks zs from rfl, ← e, List.append_assoc] at hs
    rcases List.mem_append.1 h with h | h
    · have := hb b h; simp; omega
    · rcases List.mem_append.1 h with h | h
      · simp at h; subst h; simp; omega
      · have := (List.pairwise_append.1 (List.pairwise_append.1 hs).2.1).2.2 x (by simp) b h
        simp; omega
  · rfl
theorem find_none {zs : List Int} {a : Int} (hb : ∀ b ∈ blocks zs, (b.1.at' : Int) < a) : atB zs a = none := by
  unfold atB
  split
  · rw [List.find?_eq_none]
    intro b h; have := hb b h; simp; omega
  · rfl

theorem blks_mem (zs : List Int) (k : Nat) : ∀ b ∈ blks zs k, Good zs b.1.at' ∧ b.1.size = sz zs b.1.at' ∧ b.1.kind = kd zs b.1.at' :=
  blks_ind zs (P := fun k => ∀ b ∈ blks zs k, Good zs b.1.at' ∧ b.1.size = sz zs b.1.at' ∧ b.1.kind = kd zs b.1.at') (fun k h ih => by
    rw [blks_yes h]
    intro b hb
    rcases List.mem_cons.1 hb with rfl | hb
    · exact ⟨h, rfl, rfl⟩
    · exact ih b hb) (fun k h => by rw [blks_no h]; simp) k
theorem atB_some {zs : List Int} {a : Int} {b : BkOf zs.length} (h : atB zs a = some b) : slabOk zs = true ∧ (b.1.at' : Int) = a ∧ Good zs b.1.at' ∧ b.1.size = sz zs b.1.at' ∧ b.1.kind = kd zs b.1.at' ∧ b ∈ blocks zs := by
  unfold atB at h
  split at h
  · rename_i hok
    have h1 := List.mem_of_find?_eq_some h
    have h2 := List.find?_some h
    exact ⟨hok, by simpa using h2, (blks_mem zs 0 b h1).1, (blks_mem zs 0 b h1).2.1, (blks_mem zs 0 b h1).2.2, h1⟩
  · cases h

/-- How many words all free blocks have together. -/
def roomOf {L : Nat} : List (BkOf L) → Nat
  | [] => 0
  | b :: bs => (if b.1.kind = 0 then b.1.size else 0) + roomOf bs
theorem roomOf_append {L : Nat} (as bs : List (BkOf L)) : roomOf (as ++ bs) = roomOf as + roomOf bs := by
  induction as with
  | nil => simp [roomOf]
  | cons a as ih => simp [roomOf, ih]; omega
theorem roomOf_le (zs : List Int) (k : Nat) (hk : k ≤ zs.length) : k + roomOf (blks zs k) ≤ zs.length := by
  refine blks_ind zs (P := fun k => k ≤ zs.length → k + roomOf (blks zs k) ≤ zs.length) (fun k h ih hk => ?_) (fun k h hk => by rw [blks_no h]; simpa [roomOf] using hk) k hk
  have := ih h.le
  rw [blks_yes h]
  simp only [roomOf]
  split <;> omega
def room (zs : List Int) : Nat := if slabOk zs then roomOf (blocks zs) else 0
def places (zs : List Int) : List Int := if slabOk zs then (blocks zs).map (fun b => (b.1.at' : Int)) else []

end Go.Proofs.YtpbafjcoomfooaaGreat
