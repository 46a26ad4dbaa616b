/-
  Facts on lists: the blocks that are reached, in the order in which they are met (chapter 7).
-/
import Derived.Test.YtgnpllpinfhccaaGreatDoorShapeR
namespace Go.Proofs.YtgnpllpinfhccaaGreatDoor
open Go.RowKit

/-- The block to which a value leads, or -1. -/
def blkV (v : Int) : Int := if v % 8 < 4 then -1 else v / 8
/-- A block that was not met yet is met. -/
def addB (out : List Int) (a : Int) : List Int := if 0 ≤ a ∧ a ∉ out then out ++ [a] else out
def meetL (out vs : List Int) : List Int := vs.foldl (fun o v => addB o (blkV v)) out
theorem meetL_snoc (out vs : List Int) (v : Int) : meetL out (vs ++ [v]) = addB (meetL out vs) (blkV v) := by simp [meetL]
/-- The values of a block. -/
def slotV (zs : List Int) (a : Int) : List Int := (slotsL zs a).map (fun j => hz zs j.toNat)
theorem slotV_len (zs : List Int) (a : Int) : (slotV zs a).length = (slotsL zs a).length := by simp [slotV]
def ordF (zs : List Int) : Nat → Nat → List Int → List Int
  | 0, _, out => out
  | n + 1, k, out => match out[k]? with | some a => ordF zs n (k + 1) (meetL out (slotV zs a)) | none => out
theorem ordF_on {zs out : List Int} {n k : Nat} {a : Int} (h : out[k]? = some a) : ordF zs (n + 1) k out = ordF zs n (k + 1) (meetL out (slotV zs a)) := by simp [ordF, h]
theorem ordF_end {zs out : List Int} {n k : Nat} (h : out.length ≤ k) : ordF zs n k out = out := by
  cases n with
  | zero => rfl
  | succ n => simp [ordF, List.getElem?_eq_none h]
/-- All blocks that are reached, in the order in which they are met. -/
def ordL (zs rs : List Int) : List Int := ordF zs (zs.length + 1) 0 (meetL [] rs)
/-- Blocks that are there, each once. -/
def Met (zs out : List Int) : Prop := out.Nodup ∧ ∀ a ∈ out, 1 ≤ kindAt zs a
theorem kind_nat {zs : List Int} {a : Int} (h : 1 ≤ kindAt zs a) : ∃ n : Nat, a = n ∧ n < zs.length ∧ Good zs n ∧ slotsL zs a = slL n (kd zs n) (sz zs n) ∧ ∃ b ∈ blocks zs, b.1.at' = n := by
  unfold kindAt at h
  cases hb : atB zs a with
  | none => rw [hb] at h; simp at h
  | some b =>
    obtain ⟨_, e, hg, hs, hk, hm⟩ := atB_some hb
    exact ⟨b.1.at', e.symm, hg.lt, hg, by unfold slotsL; rw [hb, ← hs, ← hk], b, hm, rfl⟩
theorem nodup_toNat {l : List Int} (h0 : ∀ a ∈ l, 0 ≤ a) (hd : l.Nodup) : (l.map Int.toNat).Nodup := by
  induction l with
  | nil => simp
  | cons x l ih =>
    have hd' := List.nodup_cons.1 hd
    rw [List.map_cons]
    refine List.nodup_cons.2 ⟨fun hm => ?_, ih (fun a ha => h0 a (List.mem_cons_of_mem _ ha)) hd'.2⟩
    obtain ⟨y, hy, e⟩ := List.mem_map.1 hm
    have h1 := h0 x (by simp)
    have h2 := h0 y (List.mem_cons_of_mem _ hy)
    have : y = x := by omega
    rw [this] at hy
    exact hd'.1 hy
theorem Met.len {zs out : List Int} (h : Met zs out) : out.length ≤ zs.length := by
  have h0 : ∀ a ∈ out, 0 ≤ a := fun a ha => by
    obtain ⟨n, e, _⟩ := kind_nat (h.2 a ha)
    omega
  have := nodup_le zs.length (out.map Int.toNat) (nodup_toNat h0 h.1) (fun p hp => by
    obtain ⟨a, ha, rfl⟩ := List.mem_map.1 hp
    obtain ⟨n, e, hn, _⟩ := kind_nat (h.2 a ha)
    omega)
  simpa using this
theorem Met.bd {zs out : List Int} (h : Met zs out) (hl : zs.length ≤ 1048576) : ∀ a ∈ out, -9223372036854775808 ≤ a ∧ a ≤ 9223372036854775807 := fun a ha => by
  obtain ⟨n, e, hn, _⟩ := kind_nat (h.2 a ha)
  omega
theorem Met.add {zs out : List Int} {a : Int} (h : Met zs out) (ha : 0 ≤ a → 1 ≤ kindAt zs a) : Met zs (addB out a) := by
  unfold addB
  split
  · rename_i hc
    refine ⟨?_, fun x hx => ?_⟩
    · rw [List.nodup_append]
      exact ⟨h.1, by simp, fun x hx y hy => by simp at hy; subst hy; intro e; subst e; exact hc.2 hx⟩
    · rcases List.mem_append.1 hx with h' | h'
      · exact h.2 x h'
      · simp at h'; subst h'; exact ha hc.1
  · exact h
/-- Values that lead somewhere. -/
def Leads (zs vs : List Int) : Prop := ∀ v ∈ vs, 0 ≤ blkV v → 1 ≤ kindAt zs (blkV v)
theorem Met.meet {zs : List Int} : ∀ {vs out : List Int}, Met zs out → Leads zs vs → Met zs (meetL out vs)
  | [], out, h, _ => h
  | v :: vs, out, h, hv => Met.meet (vs := vs) (h.add (hv v (by simp))) (fun x hx => hv x (List.mem_cons_of_mem _ hx))
theorem blkV_bd {v : Int} (h : -9223372036854775808 ≤ v ∧ v ≤ 9223372036854775807) : -9223372036854775808 ≤ blkV v ∧ blkV v ≤ 9223372036854775807 := by
  unfold blkV
  split <;> omega
theorem leads_roots {zs rs : List Int} (h : rootsR zs rs = true) : Leads zs rs := by
  intro v hv h0
  unfold rootsR leadAll at h
  simp only [Bool.and_eq_true] at h
  obtain ⟨j, hj, e⟩ := List.getElem_of_mem hv
  have h1 := allR_iff.1 h.2 j hj
  have e1 : hz rs j = v := by unfold hz; rw [List.getElem?_eq_getElem hj]; exact e
  rw [e1] at h1
  unfold blkV at h0 ⊢
  split
  · rename_i h4; rw [if_pos h4] at h0; omega
  · rename_i h4
    have hk := leads_kind h1 (by omega)
    rw [hk]
    unfold wantK
    repeat' split
    all_goals omega
theorem slotV_at {zs : List Int} {a : Int} {i : Nat} (h : i < (slotsL zs a).length) : hz (slotV zs a) i = hz zs (hz (slotsL zs a) i).toNat := by
  unfold slotV hz
  rw [List.getElem?_map, List.getElem?_eq_getElem h]
  rfl
theorem leads_slots {zs : List Int} {a : Int} (hh : heapR zs = true) (ha : 1 ≤ kindAt zs a) : Leads zs (slotV zs a) ∧ (slotsL zs a).length ≤ zs.length ∧ ∀ i, i < (slotsL zs a).length → ∃ p : Nat, hz (slotsL zs a) i = p ∧ p < zs.length := by
  obtain ⟨n, e, _, _, _, b, hb, hbn⟩ := kind_nat ha
  have hf := slots_facts hh hb
  rw [hbn, ← e] at hf
  refine ⟨fun v hv h0 => ?_, hf.2.1, fun i hi => ?_⟩
  · obtain ⟨i, hi, ei⟩ := List.getElem_of_mem hv
    rw [slotV_len] at hi
    obtain ⟨p, hp, hpl, hok, hk⟩ := hf.2.2 i hi
    have e1 : v = hz zs p := by
      have := slotV_at hi
      rw [hp, Int.toNat_natCast] at this
      rw [← this]
      unfold hz
      rw [List.getElem?_eq_getElem (by rw [slotV_len]; exact hi)]
      exact ei.symm
    rw [e1] at h0 ⊢
    unfold blkV at h0 ⊢
    split
    · rename_i h4; rw [if_pos h4] at h0; omega
    · rename_i h4
      exact hk (by omega)
  · obtain ⟨p, hp, hpl, _⟩ := hf.2.2 i hi
    exact ⟨p, hp, hpl⟩
theorem addB_mem {out : List Int} {a x : Int} (h : x ∈ out) : x ∈ addB out a := by
  unfold addB
  split
  · exact List.mem_append_left _ h
  · exact h
theorem addB_pre {out : List Int} {a x : Int} {k : Nat} (h : out[k]? = some x) : (addB out a)[k]? = some x := by
  unfold addB
  split
  · rw [List.getElem?_append_left (List.getElem?_eq_some_iff.1 h).1]; exact h
  · exact h
theorem Met.ord {zs : List Int} (hh : heapR zs = true) : ∀ (n k : Nat) {out : List Int}, Met zs out → Met zs (ordF zs n k out)
  | 0, _, _, h => h
  | n + 1, k, out, h => by
    unfold ordF
    split
    · rename_i a ha
      have hk := h.2 a (List.mem_of_getElem? ha)
      exact Met.ord hh n (k + 1) (h.meet (leads_slots hh hk).1)
    · exact h
theorem ordL_met {zs rs : List Int} (h : rootsR zs rs = true) : Met zs (ordL zs rs) := by
  have hh : heapR zs = true := by
    unfold rootsR at h
    simp only [Bool.and_eq_true] at h
    exact h.1
  exact Met.ord hh _ _ (Met.meet ⟨List.nodup_nil, by simp⟩ (leads_roots h))
end Go.Proofs.YtgnpllpinfhccaaGreatDoor
