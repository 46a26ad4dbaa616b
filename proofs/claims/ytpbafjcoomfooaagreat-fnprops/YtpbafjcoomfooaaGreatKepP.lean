/-
  Worlds of which only one block, and new ones, have turned.
-/
import Derived.Test.YtpbafjcoomfooaaGreatRows
import Derived.WalkKit
import Derived.WalkLawsBesides
import Derived.OpenShut
namespace Go.Proofs.YtpbafjcoomfooaaGreat
open Go.RowKit

/-- Only block c, and blocks that are new, have turned. -/
structure Keeps (c : Nat) (w w' : World) : Prop where
  os : w'.os = w.os
  tape : w'.tape = w.tape
  output : w'.output = w.output
  size : w.heap.size ≤ w'.heap.size
  block : ∀ k, k < w.heap.size → k ≠ c → w'.heap[k]? = w.heap[k]?

theorem Keeps.refl (c : Nat) (w : World) : Keeps c w w := ⟨rfl, rfl, rfl, Nat.le_refl _, fun _ _ _ => rfl⟩
theorem Keeps.trans {c : Nat} {a b d : World} (h : Keeps c a b) (k : Keeps c b d) : Keeps c a d :=
  ⟨k.os.trans h.os, k.tape.trans h.tape, k.output.trans h.output, Nat.le_trans h.size k.size, fun i hi hc => (k.block i (Nat.lt_of_lt_of_le hi h.size) hc).trans (h.block i hi hc)⟩
theorem Keeps.drew {c : Nat} {a w : World} (h : Keeps c a w) : Keeps c a w.drew := ⟨h.os, h.tape, h.output, h.size, h.block⟩
theorem Keeps.drewN {c : Nat} {a w : World} (n : Nat) (h : Keeps c a w) : Keeps c a (w.drewN n) := ⟨h.os, h.tape, h.output, h.size, h.block⟩
theorem Keeps.alloc {c : Nat} {a w : World} (h : Keeps c a w) (o : Obj) : Keeps c a (w.alloc o) :=
  h.trans ⟨rfl, rfl, rfl, by simp, fun k hk _ => Below.heap_alloc _ _ _ hk⟩
theorem Keeps.setCell {c : Nat} {a w : World} (h : Keeps c a w) (j : Nat) (u : Value) : Keeps c a (w.setCell ⟨c, j, none⟩ u) :=
  h.trans ⟨rfl, rfl, rfl, by simp [World.setCell], fun k _ hc => Below.heap_setCell _ _ _ _ hc⟩
theorem Keeps.below {B c : Nat} {w w' : World} (h : Keeps c w w') (hB : B ≤ c) (hw : B ≤ w.heap.size) : Below B w w' :=
  ⟨h.os, h.tape, h.output, h.size, fun k hk => h.block k (by omega) (by omega)⟩
theorem Keeps.cell {c : Nat} {w w' : World} (h : Keeps c w w') {p : Addr} (hp : p.block < w.heap.size) (hc : p.block ≠ c) : w'.cell? p = w.cell? p := World.cell?_of_block (w := w) (h.block p.block hp hc)

end Go.Proofs.YtpbafjcoomfooaaGreat
