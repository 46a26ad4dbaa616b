/-
  Worlds of which only one block, and new ones, have turned.
  Where only one block, and new ones, have turned: what grows there, rows of one's own.
-/
import Derived.Test.YthloammkgogceaaRows
import Derived.WalkKit
import Derived.WalkLawsBesides
import Derived.OpenShut
import Derived.Test.YthloammkgogceaaHelpM
namespace Go.Proofs.Ythloammkgogceaa
open Go.RowKit

/-- Only block c, and blocks that are new, have turned. -/
structure Keeps (c : Nat) (w w' : World) : Prop where
  os : w'.os = w.os
  tape : w'.tape = w.tape
  output : w'.output = w.output
  size : w.heap.size ≤ w'.heap.size
  block : ∀ k, k < w.heap.size → k ≠ c → w'.heap[k]? = w.heap[k]?

theorem Keeps.refl (c : Nat) (w : World) : Keeps c w w := ⟨rfl, rfl, rfl, Nat.le_refl _, fun _ _ _ => rfl⟩
theorem Keeps.trans {c : Nat} {a b d : World} (h : Keeps c a b) (k : Keeps c b d) : Keeps c a d :=
  ⟨k.os.trans h.os, k.tape.trans h.tape, k.output.trans h.output, Nat.le_trans h.size k.size, fun i hi hc => (k.block i (Nat.lt_of_lt_of_le hi h.size) hc).trans (h.block i hi hc)⟩
theorem Keeps.drew {c : Nat} {a w : World} (h : Keeps c a w) : Keeps c a w.drew := ⟨h.os, h.tape, h.output, h.size, h.block⟩
theorem Keeps.drewN {c : Nat} {a w : World} (n : Nat) (h : Keeps c a w) : Keeps c a (w.drewN n) := ⟨h.os, h.tape, h.output, h.size, h.block⟩
theorem Keeps.alloc {c : Nat} {a w : World} (h : Keeps c a w) (o : Obj) : Keeps c a (w.alloc o) :=
  h.trans ⟨rfl, rfl, rfl, by simp, fun k hk _ => Below.heap_alloc _ _ _ hk⟩
theorem Keeps.setCell {c : Nat} {a w : World} (h : Keeps c a w) (j : Nat) (u : Value) : Keeps c a (w.setCell ⟨c, j, none⟩ u) :=
  h.trans ⟨rfl, rfl, rfl, by simp [World.setCell], fun k _ hc => Below.heap_setCell _ _ _ _ hc⟩
theorem Keeps.below {B c : Nat} {w w' : World} (h : Keeps c w w') (hB : B ≤ c) (hw : B ≤ w.heap.size) : Below B w w' :=
  ⟨h.os, h.tape, h.output, h.size, fun k hk => h.block k (by omega) (by omega)⟩
theorem Keeps.cell {c : Nat} {w w' : World} (h : Keeps c w w') {p : Addr} (hp : p.block < w.heap.size) (hc : p.block ≠ c) : w'.cell? p = w.cell? p := World.cell?_of_block (w := w) (h.block p.block hp hc)

end Go.Proofs.Ythloammkgogceaa
namespace Go.Proofs.Ythloammkgogceaa
open Go.RowKit

theorem Keeps.turned {c : Nat} {w w' : World} (h : Keeps c w w') : w.grownBy w' (some c) := ⟨h.os, h.tape, h.output, h.size, fun k hk hne => h.block k hk (fun e => hne (by rw [e]))⟩
theorem Keeps.on {c : Nat} {w a b : World} {row : Option Nat} (h : Keeps c w a) (hg : a.grownBy b row) (hr : ∀ k, row = some k → w.heap.size ≤ k) : Keeps c w b :=
  ⟨hg.os.trans h.os, hg.tape.trans h.tape, hg.output.trans h.output, Nat.le_trans h.size hg.size, fun k hk hc => (hg.block k (Nat.lt_of_lt_of_le hk h.size) (fun e => by have := hr k e.symm; omega)).trans (h.block k hk hc)⟩
theorem OwnL.turned {W W' : World} {base c : Nat} {v : Value} {zs : List Int} (h : OwnL W base v zs) (hk : Keeps c W W') (hc : c < base) : OwnL W' base v zs :=
  h.kept hk.turned (fun k e j ej => by cases e; have := (h.2.lt j ej).1; omega)
theorem Kept.keeps {w w' : World} (h : Kept w w') (c : Nat) : Keeps c w w' := ⟨h.os, h.tape, h.output, h.size, fun k hk _ => h.block k hk⟩
theorem Row.keeps {w w' : World} {c g : Nat} {zs : List Int} (h : Row w g zs) (hk : Keeps c w w') (hne : g ≠ c) : Row w' g zs := h.block (hk.block g h.lt hne)
theorem Cells.keeps {w w' : World} {c B : Nat} {t : TypeId} {cs : Array Value} (h : Cells w B t cs) (hk : Keeps c w w') (hne : B ≠ c) : Cells w' B t cs := (hk.block B h.lt hne).trans h

end Go.Proofs.Ythloammkgogceaa
