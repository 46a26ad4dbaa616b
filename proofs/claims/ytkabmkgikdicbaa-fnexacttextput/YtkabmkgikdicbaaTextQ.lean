/-
  TextPut of the program and of its model together: they answer the same, each a slab of its own.
-/
import Derived.Test.YtkabmkgikdicbaaTextP
namespace Go.Proofs.Ytkabmkgikdicbaa
open Go.RowKit

theorem TextPut_both (zs : List Int) (t : ByteArray) (hl : zs.length ≤ 1048576) : ∃ (rs : List Int) (at' : Int) (ok : Bool), rs.length ≤ 1048576 ∧
    (∀ (w : World) (ao : Option Addr) (cap : Nat), Ints w ao zs → zs.length ≤ cap → Calls Try.prog 7 #[.agg #[.slice ao zs.length cap], .string t] w fun e w' => ∃ v, e = .returned (.tuple #[.agg #[v], .int .i64 at', .bool ok]) ∧ OwnR w' w.heap.size v rs ∧ Kept w w') ∧
    (∀ (w : World) (ao : Option Addr) (cap : Nat), Ints w ao zs → Calls Try.prog 5 #[.agg #[.slice ao zs.length cap], .string t] w fun e w' => ∃ v, e = .returned (.tuple #[.agg #[v], .int .i64 at', .bool ok]) ∧ OwnR w' w.heap.size v rs ∧ Kept w w') := by
  cases hh : heapR zs with
  | false =>
    refine ⟨[], 0, false, by simp, fun w ao cap hI _ => ?_, fun w ao cap hI => ?_⟩
    · refine (impl_TextPut_bad w ao cap zs t hI hl hh).mono ?_
      rintro e w' ⟨rfl, hk⟩
      exact ⟨_, rfl, .inl ⟨rfl, rfl⟩, hk⟩
    · refine (spec_TextPut_bad w ao cap zs t hI hl hh).mono ?_
      rintro e w' ⟨rfl, hk⟩
      exact ⟨_, rfl, .inl ⟨rfl, rfl⟩, hk⟩
  | true =>
    refine ⟨(putC zs t).1, (putC zs t).2.1, (putC zs t).2.2, by rw [putC_len]; exact hl, fun w ao cap hI hcap => ?_, fun w ao cap hI => (spec_TextPut_do w ao cap zs t hI hl hh).mono (fun _ _ ⟨v, h1, h2, h3, _⟩ => ⟨v, h1, h2, h3⟩)⟩
    cases hf : findT zs t with
    | some b =>
      have hp : putC zs t = (zs, 8 * ((b.1.at' : Nat) : Int) + 4, true) := by simp [putC, hf]
      rw [hp]
      exact impl_TextPut_there w ao cap zs t b hI hl hcap hh hf
    | none =>
      by_cases ht : 30 < t.size
      · have hp : putC zs t = (zs, 0, false) := by simp [putC, hf, ht]
        rw [hp]
        exact impl_TextPut_long w ao cap zs t hI hl hcap hh hf ht
      · have en : ((t.size + 2 : Nat) : Int) = (t.size : Int) + 2 := by omega
        cases hff : ffB zs ((t.size + 2 : Nat) : Int) with
        | none =>
          have hff' := hff
          rw [en] at hff'
          have hp : putC zs t = (zs, 0, false) := by simp [putC, hf, ht, hff']
          rw [hp]
          exact impl_TextPut_full w ao cap zs t hI hl hcap hh hf (by omega) hff
        | some b =>
          have hff' := hff
          rw [en] at hff'
          have hp : putC zs t = (fillL (takeL zs b.1 1 (t.size + 2)) b.1.at' t t.size, 8 * ((b.1.at' : Nat) : Int) + 4, true) := by simp [putC, hf, ht, hff']
          rw [hp]
          exact impl_TextPut_laid w ao cap zs t b hI hl hcap hh hf (by omega) hff
end Go.Proofs.Ytkabmkgikdicbaa
