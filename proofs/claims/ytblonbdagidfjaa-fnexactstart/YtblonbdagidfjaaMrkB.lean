/-
  The contract of chapter 8's model l8Insert.
-/
import Derived.Test.YtblonbdagidfjaaMrkA
namespace Go.Proofs.Ytblonbdagidfjaa
open Go.RowKit
attribute [local go_sem] Plain.and7

theorem one_new2 (wr : World) (x : Int) : ∀ (j : Nat) (u : Value), [Value.int .i64 x][j]? = some u → ((wr.alloc (.cells #[] 3)).alloc (.cells #[.int .i64 x] 3)).cell? ((⟨wr.heap.size + 1, 0, none⟩ : Addr).add j) = some u := by
  have := cell_one_new (wr.alloc (.cells #[] 3)) (.int .i64 x) 3
  rw [World.size_alloc] at this
  exact this
end Go.Proofs.Ytblonbdagidfjaa
