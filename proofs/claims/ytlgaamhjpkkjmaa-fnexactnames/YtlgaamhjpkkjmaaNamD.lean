/-
  Names of the program and of its model together: they tell the same texts, each in memory of its own.
-/
import Derived.Test.YtlgaamhjpkkjmaaNamA
import Derived.Test.YtlgaamhjpkkjmaaNamB
import Derived.Test.YtlgaamhjpkkjmaaNamC
namespace Go.Proofs.Ytlgaamhjpkkjmaa
open Go.RowKit

theorem OwnS.grown {W W' : World} {base : Nat} {v : Value} {ts : List ByteArray} {row : Option Nat} (h : OwnS W base v ts) (hg : W.grownBy W' row) (hne : ∀ k, row = some k → ∀ j, v.ownBlock = some j → j ≠ k) : OwnS W' base v ts := by
  refine World.ownsRow.kept h hg ?_
  cases hv : v.ownBlock with
  | none => exact .inl rfl
  | some j =>
    right
    intro e
    exact hne j e.symm j hv rfl
theorem OwnS.strs {W : World} {base c : Nat} {a : Option Addr} {n : Nat} {ts : List ByteArray} (h : OwnS W base (.slice a n c) ts) : StrA W a ts := by
  obtain ⟨_, _, e, h'⟩ := h.at
  cases e
  exact h'
theorem Names_both (zs : List Int) (obj : Int) (hl : zs.length ≤ 1048576) (ho : -9223372036854775808 ≤ obj ∧ obj ≤ 9223372036854775807) : ∃ ts : List ByteArray, ts.length ≤ 1048576 ∧
    (∀ (w : World) (ao : Option Addr) (cap : Nat), Ints w ao zs → Calls Try.prog 25 #[.agg #[.slice ao zs.length cap], .int .i64 obj] w fun e w' => ∃ v, e = .returned v ∧ OwnS w' w.heap.size v ts ∧ Kept w w') ∧
    (∀ (w : World) (ao : Option Addr) (cap : Nat), Ints w ao zs → Calls Try.prog 24 #[.agg #[.slice ao zs.length cap], .int .i64 obj] w fun e w' => ∃ v, e = .returned v ∧ OwnS w' w.heap.size v ts ∧ Kept w w') := by
  cases hn : namesR zs obj with
  | false =>
    refine ⟨txtsP zs [], by simp [txtsP], fun w ao cap hI => ?_, fun w ao cap hI => ?_⟩
    · refine (impl_Names_ok w ao cap zs obj hI hl ho).mono ?_
      rintro e w' ⟨v, ps, rfl, hO, hps, _, hk⟩
      rcases hps with ⟨_, rfl⟩ | ⟨h, _⟩
      · exact ⟨v, rfl, hO, hk⟩
      · rw [hn] at h; cases h
    · refine (spec_Names_ok w ao cap zs obj hI hl ho).mono ?_
      rintro e w' ⟨v, ps, rfl, hO, hps, hk⟩
      rcases hps with ⟨_, rfl⟩ | ⟨h, _⟩
      · exact ⟨v, rfl, hO, hk⟩
      · rw [hn] at h; cases h
  | true =>
    have hrd : roundR zs obj = false := by
      unfold namesR at hn
      simp only [Bool.and_eq_true, Bool.not_eq_true'] at hn
      exact hn.2
    have hch : chase zs zs.length (hz zs (plc obj + 2)) = 0 := by
      unfold roundR at hrd
      simpa using hrd
    obtain ⟨ps, hpn, hpath⟩ := chase_path _ _ hch
    refine ⟨txtsP zs ps, by rw [txtsP_len]; omega, fun w ao cap hI => ?_, fun w ao cap hI => ?_⟩
    · refine (impl_Names_ok w ao cap zs obj hI hl ho).mono ?_
      rintro e w' ⟨v, qs, rfl, hO, hqs, _, hk⟩
      rcases hqs with ⟨h, _⟩ | ⟨_, h⟩
      · rw [hn] at h; cases h
      · rw [hpath.det h]; exact ⟨v, rfl, hO, hk⟩
    · refine (spec_Names_ok w ao cap zs obj hI hl ho).mono ?_
      rintro e w' ⟨v, qs, rfl, hO, hqs, hk⟩
      rcases hqs with ⟨h, _⟩ | ⟨_, h⟩
      · rw [hn] at h; cases h
      · rw [hpath.det h]; exact ⟨v, rfl, hO, hk⟩
end Go.Proofs.Ytlgaamhjpkkjmaa
