/-
  Where only one block, and new ones, have turned: what grows there, rows of one's own.
-/
import Derived.Test.YtpbafjcoomfooaaGreatKepP
import Derived.Test.YtpbafjcoomfooaaGreatHelpM
namespace Go.Proofs.YtpbafjcoomfooaaGreat
open Go.RowKit

theorem Keeps.turned {c : Nat} {w w' : World} (h : Keeps c w w') : w.grownBy w' (some c) := ⟨h.os, h.tape, h.output, h.size, fun k hk hne => h.block k hk (fun e => hne (by rw [e]))⟩
theorem Keeps.on {c : Nat} {w a b : World} {row : Option Nat} (h : Keeps c w a) (hg : a.grownBy b row) (hr : ∀ k, row = some k → w.heap.size ≤ k) : Keeps c w b :=
  ⟨hg.os.trans h.os, hg.tape.trans h.tape, hg.output.trans h.output, Nat.le_trans h.size hg.size, fun k hk hc => (hg.block k (Nat.lt_of_lt_of_le hk h.size) (fun e => by have := hr k e.symm; omega)).trans (h.block k hk hc)⟩
theorem OwnL.turned {W W' : World} {base c : Nat} {v : Value} {zs : List Int} (h : OwnL W base v zs) (hk : Keeps c W W') (hc : c < base) : OwnL W' base v zs :=
  h.kept hk.turned (fun k e j ej => by cases e; have := (h.2.lt j ej).1; omega)
theorem Kept.keeps {w w' : World} (h : Kept w w') (c : Nat) : Keeps c w w' := ⟨h.os, h.tape, h.output, h.size, fun k hk _ => h.block k hk⟩
theorem Row.keeps {w w' : World} {c g : Nat} {zs : List Int} (h : Row w g zs) (hk : Keeps c w w') (hne : g ≠ c) : Row w' g zs := h.block (hk.block g h.lt hne)
theorem Cells.keeps {w w' : World} {c B : Nat} {t : TypeId} {cs : Array Value} (h : Cells w B t cs) (hk : Keeps c w w') (hne : B ≠ c) : Cells w' B t cs := (hk.block B h.lt hne).trans h

end Go.Proofs.YtpbafjcoomfooaaGreat
