/-
  Steps, codes and units in memory (chapter 15); what a right unit is.
-/
import Derived.Test.YthmabhglmgnamaaDoorFmsP
import Derived.Test.YthmabhglmgnamaaDoorFndB
import Derived.Test.YthmabhglmgnamaaDoorStpT
namespace Go.Proofs.YthmabhglmgnamaaDoor
open Go.ChangeShapes Go.WideShapes Go.ChangeAt Go.RowKit
set_option linter.unusedSimpArgs false
set_option linter.unusedVariables false

abbrev Stp := Int × Int × Int
structure Cod where
  n : Int
  v : Int
  ss : List Stp
instance : Inhabited Cod := ⟨⟨0, 0, []⟩⟩
/-- The steps ss lie at ao. -/
def StpsA (W : World) (ao : Option Addr) (ss : List Stp) : Prop := ∀ (j : Nat) (s : Stp), ss[j]? = some s → ∃ b off, ao = some ⟨b, off, none⟩ ∧ W.cell? ⟨b, off + j * 3, none⟩ = some (.int .i64 s.1) ∧ W.cell? ⟨b, off + j * 3 + 1, none⟩ = some (.int .i64 s.2.1) ∧ W.cell? ⟨b, off + j * 3 + 2, none⟩ = some (.int .i64 s.2.2)
theorem cellK {W W' : World} (hk : Kept W W') {p : Addr} {c : Value} (h : W.cell? p = some c) : W'.cell? p = some c := (hk.cell (World.block_lt_of_cell? _ _ h)).trans h
theorem StpsA.kept {W W' : World} {ao : Option Addr} {ss : List Stp} (h : StpsA W ao ss) (hk : Kept W W') : StpsA W' ao ss := by
  intro j s hs
  obtain ⟨b, off, e, h0, h1, h2⟩ := h j s hs
  exact ⟨b, off, e, cellK hk h0, cellK hk h1, cellK hk h2⟩
theorem cell_other {W : World} {x i g k : Nat} {v : Value} (hx : g ≠ x) : (W.setCell ⟨g, k, none⟩ v).cell? ⟨x, i, none⟩ = W.cell? ⟨x, i, none⟩ := by
  have e := Below.heap_setCell W ⟨g, k, none⟩ v x (by simpa using hx.symm)
  simp only [World.cell?, e]
theorem StpsA.other {W : World} {x g k : Nat} {ss : List Stp} {v : Value} (h : StpsA W (some ⟨x, 0, none⟩) ss) (hx : g ≠ x) : StpsA (W.setCell ⟨g, k, none⟩ v) (some ⟨x, 0, none⟩) ss := by
  intro j s hs
  obtain ⟨b, off, e, h0, h1, h2⟩ := h j s hs
  simp at e
  obtain ⟨rfl, rfl⟩ := e
  exact ⟨_, _, rfl, (cell_other hx).trans h0, (cell_other hx).trans h1, (cell_other hx).trans h2⟩
/-- The codes cs lie at ao. -/
def CodsA (W : World) (ao : Option Addr) (cs : List Cod) : Prop := ∀ (j : Nat) (c : Cod), cs[j]? = some c → ∃ b off xo xc, ao = some ⟨b, off, none⟩ ∧ W.cell? ⟨b, off + j * 3, none⟩ = some (.int .i64 c.n) ∧ W.cell? ⟨b, off + j * 3 + 1, none⟩ = some (.int .i64 c.v) ∧ W.cell? ⟨b, off + j * 3 + 2, none⟩ = some (.slice xo c.ss.length xc) ∧ StpsA W xo c.ss
theorem CodsA.kept {W W' : World} {ao : Option Addr} {cs : List Cod} (h : CodsA W ao cs) (hk : Kept W W') : CodsA W' ao cs := by
  intro j c hc
  obtain ⟨b, off, xo, xc, e, h0, h1, h2, h3⟩ := h j c hc
  exact ⟨b, off, xo, xc, e, cellK hk h0, cellK hk h1, cellK hk h2, h3.kept hk⟩
theorem CodsA.other {W : World} {x g k : Nat} {cs : List Cod} {v : Value} (h : CodsA W (some ⟨x, 0, none⟩) cs) (hx : g ≠ x) (hs : ∀ (j : Nat) (c : Cod) xo xc, cs[j]? = some c → W.cell? ⟨x, j * 3 + 2, none⟩ = some (.slice xo c.ss.length xc) → StpsA W xo c.ss → StpsA (W.setCell ⟨g, k, none⟩ v) xo c.ss) : CodsA (W.setCell ⟨g, k, none⟩ v) (some ⟨x, 0, none⟩) cs := by
  intro j c hc
  obtain ⟨b, off, xo, xc, e, h0, h1, h2, h3⟩ := h j c hc
  simp at e
  obtain ⟨rfl, rfl⟩ := e
  exact ⟨_, _, xo, xc, rfl, (cell_other hx).trans h0, (cell_other hx).trans h1, (cell_other hx).trans h2, hs j c xo xc hc (by simpa using h2) h3⟩
def sumC : List Cod → Nat
  | [] => 0
  | c :: cs => c.ss.length + sumC cs
def blkC (cs : List Cod) : Nat := cs.length + sumC cs
theorem sumC_take {ts : List Cod} {k : Nat} {x : Cod} (h : ts[k]? = some x) : sumC (ts.take (k + 1)) = sumC (ts.take k) + x.ss.length := by
  induction ts generalizing k with
  | nil => simp at h
  | cons t ts ih =>
    cases k with
    | zero => simp at h; subst h; simp [sumC]
    | succ k => simp at h; simp [sumC, ih h]; omega
theorem sumC_le (ts : List Cod) (k : Nat) : sumC (ts.take k) ≤ sumC ts := by
  induction ts generalizing k with
  | nil => simp [sumC]
  | cons t ts ih =>
    cases k with
    | zero => simp [sumC]
    | succ k => simp [sumC, ih k]
theorem sumC_mem {ts : List Cod} {x : Cod} (h : x ∈ ts) : x.ss.length ≤ sumC ts := by
  induction ts with
  | nil => simp at h
  | cons t ts ih =>
    rcases List.mem_cons.1 h with rfl | h
    · simp [sumC]
    · have := ih h; simp [sumC]; omega
def FitC (cs : List Cod) : Prop := cs.length ≤ maxLen ∧ ∀ c ∈ cs, c.ss.length ≤ maxLen
/-- What a number of a step may be. -/
def bndR (k : Int) (nt nc ns : Nat) : Int × Int :=
  if k = 1 then (-2147483648, 2147483647) else if k = 2 then (0, (nt : Int) - 1) else if k = 3 then (0, 40) else if k = 4 then (0, 11) else if k = 5 then (0, 200) else if k = 6 then (0, (ns : Int) - 1) else if k = 7 then (0, (nc : Int) - 1) else (0, 0)
def fitR (k n : Int) (nt nc ns : Nat) : Bool := decide ((bndR k nt nc ns).1 ≤ n ∧ n ≤ (bndR k nt nc ns).2)
def stpR (s : Stp) (nt nc ns : Nat) : Bool := decide (1 ≤ s.1 ∧ s.1 ≤ 25) && (fitR (formR s.1).2.1 s.2.1 nt nc ns && fitR (formR s.1).2.2 s.2.2 nt nc ns)
def headR (c : Cod) : Bool := decide (0 ≤ c.n ∧ c.n ≤ c.v ∧ c.v ≤ 12 ∧ 1 ≤ c.ss.length ∧ c.ss.length ≤ 2000)
def lastR (c : Cod) : Bool := match c.ss[c.ss.length - 1]? with
  | some s => decide (s.1 = 13)
  | none => false
def codR (c : Cod) (nt nc : Nat) : Bool := headR c && (c.ss.all (fun s => stpR s nt nc c.ss.length) && lastR c)
def textsR (ts : List ByteArray) : Bool := decide (ts.length ≤ 200) && ts.all (fun t => decide (t.size ≤ 30))
def unitR (cs : List Cod) (ts : List ByteArray) : Bool := decide (1 ≤ cs.length ∧ cs.length ≤ 40) && (textsR ts && cs.all (fun c => codR c ts.length cs.length))
theorem all_no {α : Type} {l : List α} {p : α → Bool} {k : Nat} {x : α} (h : l[k]? = some x) (hp : p x = false) : l.all p = false := by
  rw [List.all_eq_false]
  exact ⟨x, List.mem_of_getElem? h, by simp [hp]⟩
theorem all_yes {α : Type} {l : List α} {p : α → Bool} (h : ∀ (j : Nat) x, j < l.length → l[j]? = some x → p x = true) : l.all p = true := by
  rw [List.all_eq_true]
  intro x hx
  obtain ⟨k, hk⟩ := List.getElem?_of_mem hx
  exact h k x (List.getElem?_eq_some_iff.1 hk).1 hk
end Go.Proofs.YthmabhglmgnamaaDoor
