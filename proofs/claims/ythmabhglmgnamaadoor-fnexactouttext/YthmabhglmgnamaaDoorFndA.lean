/-
  Rows of texts and rows of such rows, and where a name stands in them: spec.Find, impl.Find exactly.
-/
import Derived.Test.YthmabhglmgnamaaDoorSlabI
import Derived.OwnWalk
import Derived.RegionTactic
namespace Go.Proofs.YthmabhglmgnamaaDoor
open Go.RowKit
attribute [local go_sem] Plain.and7

/-- The texts ts lie at ao. -/
def StA (W : World) (ao : Option Addr) (ts : List ByteArray) : Prop := ∀ j t, ts[j]? = some t → ∃ b off, ao = some ⟨b, off, none⟩ ∧ W.cell? ⟨b, off + j, none⟩ = some (.string t)
theorem StA.kept {W W' : World} {ao : Option Addr} {ts : List ByteArray} (h : StA W ao ts) (hk : Kept W W') : StA W' ao ts := by
  intro j t ht
  obtain ⟨b, off, e, hc⟩ := h j t ht
  exact ⟨b, off, e, (hk.cell (p := ⟨b, off + j, none⟩) (World.block_lt_of_cell? _ _ hc)).trans hc⟩
/-- The rows tss lie at ao. -/
def SsA (W : World) (ao : Option Addr) (tss : List (List ByteArray)) : Prop := ∀ j ts, tss[j]? = some ts → ∃ b off xo xc, ao = some ⟨b, off, none⟩ ∧ W.cell? ⟨b, off + j, none⟩ = some (.slice xo ts.length xc) ∧ StA W xo ts
theorem SsA.kept {W W' : World} {ao : Option Addr} {tss : List (List ByteArray)} (h : SsA W ao tss) (hk : Kept W W') : SsA W' ao tss := by
  intro j t ht
  obtain ⟨b, off, xo, xc, e, hc, hx⟩ := h j t ht
  exact ⟨b, off, xo, xc, e, (hk.cell (p := ⟨b, off + j, none⟩) (World.block_lt_of_cell? _ _ hc)).trans hc, hx.kept hk⟩
/-- Two worlds are one. -/
structure HidW (a b : World) : Prop where
  out : a = b
/-- Where a name stands first. -/
def plcF (s : ByteArray) : List ByteArray → Option Nat
  | [] => none
  | t :: ts => if t.toList == s.toList then some 0 else (plcF s ts).map (· + 1)
theorem plcF_none {s : ByteArray} : ∀ {ts : List ByteArray}, (∀ (j : Nat) t, ts[j]? = some t → (t.toList == s.toList) = false) → plcF s ts = none
  | [], _ => rfl
  | t :: ts, h => by
    rw [plcF, h 0 t rfl]
    simp [plcF_none (ts := ts) (fun j t ht => h (j + 1) t (by simpa using ht))]
theorem plcF_some {s : ByteArray} : ∀ {ts : List ByteArray} {k : Nat} {x : ByteArray}, (∀ (j : Nat) t, j < k → ts[j]? = some t → (t.toList == s.toList) = false) → ts[k]? = some x → (x.toList == s.toList) = true → plcF s ts = some k
  | [], k, x, _, hx, _ => by simp at hx
  | t :: ts, 0, x, _, hx, he => by
    simp at hx
    subst hx
    rw [plcF, he]
    rfl
  | t :: ts, k + 1, x, h, hx, he => by
    rw [plcF, h 0 t (by omega) rfl]
    simp [plcF_some (ts := ts) (k := k) (x := x) (fun j t hj ht => h (j + 1) t (by omega) (by simpa using ht)) (by simpa using hx) he]
/-- At which depth and place, from the innermost scope on. -/
def findD (s : ByteArray) : List (List ByteArray) → Nat → Nat × Nat × Bool
  | [], _ => (0, 0, false)
  | ts :: r, d => match plcF s ts with
    | some p => (d, p, true)
    | none => findD s r (d + 1)
def findR (tss : List (List ByteArray)) (s : ByteArray) : Nat × Nat × Bool := findD s tss.reverse 0
theorem rev_drop {α : Type} {l : List α} {k : Nat} {x : α} (hk : k < l.length) (hx : l[l.length - 1 - k]? = some x) : l.reverse.drop k = x :: l.reverse.drop (k + 1) := by
  have h : l.reverse[k]? = some x := by rw [List.getElem?_reverse hk]; exact hx
  obtain ⟨h1, h2⟩ := List.getElem?_eq_some_iff.1 h
  rw [List.drop_eq_getElem_cons h1, h2]
def fndV (tss : List (List ByteArray)) (s : ByteArray) : Value := .tuple #[.int .i64 ((findR tss s).1 : Nat), .int .i64 ((findR tss s).2.1 : Nat), .bool (findR tss s).2.2]

end Go.Proofs.YthmabhglmgnamaaDoor
