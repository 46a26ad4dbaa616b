/-
  Facts on lists: the cells of an object, one behind the other, each once.
-/
import Derived.Test.YtnamdleebijcbaaObjB
namespace Go.Proofs.Ytnamdleebijcbaa
open Go.RowKit

/-- From the link v on the cells ps lie one behind the other, up to the link v'. -/
def Path (zs : List Int) : Int → List Nat → Int → Prop
  | v, [], v' => v' = v
  | v, p :: ps, v' => v ≠ 0 ∧ plc v = p ∧ Path zs (hz zs (p + 3)) ps v'
theorem Path.snoc {zs : List Int} {v' : Int} (h0 : v' ≠ 0) : ∀ {ps : List Nat} {v : Int}, Path zs v ps v' → Path zs v (ps ++ [plc v']) (hz zs (plc v' + 3))
  | [], v, h => by
    have e : v' = v := h
    subst e
    exact ⟨h0, rfl, rfl⟩
  | p :: ps, v, h => ⟨h.1, h.2.1, Path.snoc h0 h.2.2⟩
theorem Path.chase {zs : List Int} {v' : Int} (n : Nat) : ∀ {ps : List Nat} {v : Int}, Path zs v ps v' → Go.Proofs.Ytnamdleebijcbaa.chase zs (ps.length + n) v = Go.Proofs.Ytnamdleebijcbaa.chase zs n v'
  | [], v, h => by
    have e : v' = v := h
    subst e
    simp
  | p :: ps, v, h => by
    have e : (p :: ps).length + n = (ps.length + n) + 1 := by simp; omega
    rw [e]
    simp only [Go.Proofs.Ytnamdleebijcbaa.chase, if_neg h.1, h.2.1]
    exact Path.chase n h.2.2
/-- The last one, or what was there. -/
def lastP (ps : List Nat) (last : Int) : Int := match ps.getLast? with | some p => ((p : Nat) : Int) | none => last
theorem lastP_cons (p : Nat) (ps : List Nat) (last : Int) : lastP (p :: ps) last = lastP ps ((p : Nat) : Int) := by
  unfold lastP
  cases ps with
  | nil => rfl
  | cons q qs => simp [List.getLast?_cons]
def namedP (zs : List Int) (name : Int) (ps : List Nat) : Option Nat := ps.find? (fun p => decide (hz zs (p + 1) = name))
theorem Path.miss {zs : List Int} {name v' : Int} (n : Nat) : ∀ {ps : List Nat} {v last : Int}, Path zs v ps v' → namedP zs name ps = none → cellF zs name (ps.length + n) v last = cellF zs name n v' (lastP ps last)
  | [], v, last, h, _ => by
    have e : v' = v := h
    subst e
    simp [lastP]
  | p :: ps, v, last, h, hn => by
    have e : (p :: ps).length + n = (ps.length + n) + 1 := by simp; omega
    unfold namedP at hn
    rw [List.find?_cons] at hn
    split at hn
    · cases hn
    · rename_i hd
      have hd' : ¬ hz zs (p + 1) = name := by simpa using hd
      rw [e, lastP_cons]
      simp only [cellF, if_neg h.1, h.2.1, if_neg hd']
      exact Path.miss n h.2.2 hn
theorem Path.hit {zs : List Int} {name v' : Int} {q : Nat} (n : Nat) : ∀ {ps : List Nat} {v last : Int}, Path zs v ps v' → namedP zs name ps = some q → (cellF zs name (ps.length + n) v last).1 = ((q : Nat) : Int)
  | [], v, last, h, hn => by simp [namedP] at hn
  | p :: ps, v, last, h, hn => by
    have e : (p :: ps).length + n = (ps.length + n) + 1 := by simp; omega
    unfold namedP at hn
    rw [List.find?_cons] at hn
    rw [e]
    split at hn
    · rename_i hd
      have hd' : hz zs (p + 1) = name := by simpa using hd
      cases hn
      simp only [cellF, if_neg h.1, h.2.1, if_pos hd']
    · rename_i hd
      have hd' : ¬ hz zs (p + 1) = name := by simpa using hd
      simp only [cellF, if_neg h.1, h.2.1, if_neg hd']
      exact Path.hit n h.2.2 hn
theorem Path.next {zs : List Int} {v' : Int} {q : Nat} : ∀ {ps : List Nat} {v : Int}, Path zs v ps v' → q ∈ ps → hz zs (q + 3) = v' ∨ (hz zs (q + 3) ≠ 0 ∧ plc (hz zs (q + 3)) ∈ ps)
  | [], v, h, hq => by simp at hq
  | [p], v, h, hq => by
    have e : q = p := by simpa using hq
    subst e
    exact .inl h.2.2.symm
  | p :: r :: ps, v, h, hq => by
    rcases List.mem_cons.1 hq with rfl | hq
    · exact .inr ⟨h.2.2.1, by rw [h.2.2.2.1]; simp⟩
    · rcases Path.next h.2.2 hq with h1 | ⟨h1, h2⟩
      · exact .inl h1
      · exact .inr ⟨h1, List.mem_cons_of_mem _ h2⟩
theorem Path.circle {zs : List Int} {v v' : Int} {ps : List Nat} (h : Path zs v ps v') (h0 : v' ≠ 0) (hm : plc v' ∈ ps) : ∀ (n : Nat) (u : Int), u ≠ 0 → plc u ∈ ps → Go.Proofs.Ytnamdleebijcbaa.chase zs n u ≠ 0
  | 0, u, hu, _ => hu
  | n + 1, u, hu, hp => by
    simp only [Go.Proofs.Ytnamdleebijcbaa.chase, if_neg hu]
    rcases h.next hp with e | ⟨e1, e2⟩
    · rw [e]; exact Path.circle h h0 hm n v' h0 hm
    · exact Path.circle h h0 hm n _ e1 e2
theorem Path.none {zs : List Int} {name v v' : Int} {ps : List Nat} (h : Path zs v ps v') (h0 : v' ≠ 0) (hm : plc v' ∈ ps) (hn : namedP zs name ps = none) : ∀ (n : Nat) (u last : Int), u ≠ 0 → plc u ∈ ps → (cellF zs name n u last).1 = -1
  | 0, u, last, hu, _ => rfl
  | n + 1, u, last, hu, hp => by
    have hd : ¬ hz zs (plc u + 1) = name := by
      have := List.find?_eq_none.1 hn _ hp
      simpa using this
    simp only [cellF, if_neg hu, if_neg hd]
    rcases h.next hp with e | ⟨e1, e2⟩
    · rw [e]; exact Path.none h h0 hm hn n v' _ h0 hm
    · exact Path.none h h0 hm hn n _ _ e1 e2
theorem nodup_le : ∀ (n : Nat) (ps : List Nat), ps.Nodup → (∀ p ∈ ps, p < n) → ps.length ≤ n
  | 0, ps, _, h => by
    cases ps with
    | nil => simp
    | cons p _ => exact absurd (h p (by simp)) (by omega)
  | n + 1, ps, hd, h => by
    have h1 := nodup_le n (ps.erase n) (hd.erase n) (fun p hp => by
      have := hd.mem_erase_iff.1 hp
      have := h p this.2
      omega)
    have := List.length_erase (a := n) (l := ps)
    split at this <;> omega
/-- All cells from a link on, each once. -/
structure All (zs : List Int) (v : Int) (ps : List Nat) (v' : Int) : Prop where
  path : Path zs v ps v'
  once : ps.Nodup
  le : ∀ p ∈ ps, p + 4 ≤ zs.length
  over : v' = 0 ∨ plc v' ∈ ps
theorem All.len {zs : List Int} {v v' : Int} {ps : List Nat} (h : All zs v ps v') : ps.length ≤ zs.length := nodup_le _ _ h.once (fun p hp => by have := h.le p hp; omega)
theorem All.cell {zs : List Int} {v v' name : Int} {ps : List Nat} (h : All zs v ps v') : (cellF zs name zs.length v (-1)).1 = match namedP zs name ps with | some p => ((p : Nat) : Int) | none => -1 := by
  have hl := h.len
  obtain ⟨n, hn⟩ : ∃ n, zs.length = ps.length + n := ⟨zs.length - ps.length, by omega⟩
  rw [hn]
  cases e : namedP zs name ps with
  | some p => exact h.path.hit n e
  | none =>
    rw [h.path.miss n e]
    by_cases h0 : v' = 0
    · subst h0; rw [cellF_zero]
    · exact h.path.none h0 (h.over.resolve_left h0) e n v' _ h0 (h.over.resolve_left h0)
theorem All.last {zs : List Int} {v name : Int} {ps : List Nat} (h : All zs v ps 0) (hn : namedP zs name ps = none) : (cellF zs name zs.length v (-1)).2 = lastP ps (-1) := by
  have hl := h.len
  obtain ⟨n, e⟩ : ∃ n, zs.length = ps.length + n := ⟨zs.length - ps.length, by omega⟩
  rw [e, h.path.miss n hn, cellF_zero]
theorem All.round {zs : List Int} {v v' : Int} {ps : List Nat} (h : All zs v ps v') : decide (Go.Proofs.Ytnamdleebijcbaa.chase zs zs.length v ≠ 0) = decide (v' ≠ 0) := by
  have hl := h.len
  obtain ⟨n, e⟩ : ∃ n, zs.length = ps.length + n := ⟨zs.length - ps.length, by omega⟩
  rw [e, h.path.chase n]
  by_cases h0 : v' = 0
  · subst h0; rw [chase_zero]
  · have := h.path.circle h0 (h.over.resolve_left h0) n v' h0 (h.over.resolve_left h0)
    simp [h0, this]
/-- The link behind the last cell. -/
theorem Path.last {zs : List Int} {v v' : Int} {ps : List Nat} {p : Nat} (h : Path zs v ps v') (hp : ps.getLast? = some p) : hz zs (p + 3) = v' := by
  induction ps generalizing v with
  | nil => simp at hp
  | cons q qs ih =>
    cases qs with
    | nil =>
      have e : q = p := by simpa using hp
      subst e
      exact h.2.2.symm
    | cons r rs => exact ih h.2.2 (by rw [List.getLast?_cons_cons] at hp; exact hp)
end Go.Proofs.Ytnamdleebijcbaa
