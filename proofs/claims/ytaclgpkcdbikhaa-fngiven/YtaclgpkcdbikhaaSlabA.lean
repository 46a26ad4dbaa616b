/-
  What Take makes of a slab, both of the program and of its model; sameInts.
-/
import Derived.Test.YtaclgpkcdbikhaaSlabF
import Derived.Test.YtaclgpkcdbikhaaSlabR
import Derived.Test.YtaclgpkcdbikhaaSeqN
import Derived.Test.YtaclgpkcdbikhaaSamI
namespace Go.Proofs.Ytaclgpkcdbikhaa
open Go.RowKit

theorem Take_facts (zs : List Int) (kind n : Int) (hn : n ≤ 9223372036854775807) (hl : zs.length ≤ 1048576) : ∃ (rs : List Int) (at' : Int) (ok : Bool), rs.length ≤ 1048576 ∧
    (∀ (w : World) (ao : Option Addr) (cap : Nat), Ints w ao zs → Calls Try.prog 8 #[.agg #[.slice ao zs.length cap], .int .i64 kind, .int .i64 n] w fun e w' => ∃ v, e = .returned (.tuple #[.agg #[v], .int .i64 at', .bool ok]) ∧ OwnR w' w.heap.size v rs ∧ Kept w w') ∧
    (∀ (w : World) (ao : Option Addr) (cap : Nat), Ints w ao zs → Calls Try.prog 9 #[.agg #[.slice ao zs.length cap], .int .i64 kind, .int .i64 n] w fun e w' => ∃ v, e = .returned (.tuple #[.agg #[v], .int .i64 at', .bool ok]) ∧ OwnR w' w.heap.size v rs ∧ Kept w w') ∧
    (slabOk zs = false → rs = [] ∧ ok = false) ∧ (slabOk zs = true → ok = false → rs = zs) ∧
    (ok = true → slabOk zs = true ∧ ∃ s' : Nat, kindAt rs at' = kind ∧ sizeAt rs at' = s' ∧ n ≤ s' ∧ (s' : Int) ≤ n + 1 ∧ kindAt zs at' = 0 ∧ slabOk rs = true ∧ room rs + s' = room zs ∧ slabOk (giveL rs at') = true ∧ room (giveL rs at') = room zs ∧ rs.length = zs.length) := by
  cases hok : slabOk zs with
  | false =>
    refine ⟨[], 0, false, by simp, fun w ao cap hI => ?_, fun w ao cap hI => ?_, by simp, by simp, by simp⟩
    · refine (impl_Take_bad w ao cap zs kind n hI hl hok).mono ?_
      rintro e w' ⟨rfl, hk⟩
      exact ⟨_, rfl, .inl ⟨rfl, rfl⟩, hk⟩
    · refine (spec_Take_bad w ao cap zs kind n hI hl hok).mono ?_
      rintro e w' ⟨rfl, hk⟩
      exact ⟨_, rfl, .inl ⟨rfl, rfl⟩, hk⟩
  | true =>
    by_cases hA : 1 ≤ kind ∧ kind ≤ 5 ∧ 2 ≤ n
    · obtain ⟨k, rfl⟩ : ∃ k : Nat, kind = k := ⟨kind.toNat, by omega⟩
      obtain ⟨m, rfl⟩ : ∃ m : Nat, n = m := ⟨n.toNat, by omega⟩
      cases hb : ffB zs m with
      | none => exact ⟨zs, 0, false, hl, fun w ao cap hI => impl_Take_no w ao cap zs k m hI hl hok (.inr hb), fun w ao cap hI => (spec_Take_do w ao cap zs k m hI hl hok (by omega) (by omega) (by omega) hn zs 0 false (.inr ⟨hb, rfl, rfl, rfl⟩)).mono (fun _ _ ⟨v, h1, h2, h3, _⟩ => ⟨v, h1, h2, h3⟩), by simp, by simp, by simp⟩
      | some b =>
        obtain ⟨s', t1, t2, t3, t4, t5, t6, t7, t8⟩ := takeL_ok (kind := k) hok hb (by omega) (by omega) (by omega)
        have hgb := give_back t3 t8 (by omega)
        have hlen : (takeL zs b.1 k m).length = zs.length := takeL_len _ _ _ _
        refine ⟨takeL zs b.1 k m, (b.1.at' : Nat), true, by omega, fun w ao cap hI => impl_Take_yes w ao cap zs k m b hI hl hok (by omega) (by omega) (by omega) hb, fun w ao cap hI => (spec_Take_do w ao cap zs k m hI hl hok (by omega) (by omega) (by omega) hn _ _ true (.inl ⟨b, hb, rfl, rfl, rfl⟩)).mono (fun _ _ ⟨v, h1, h2, h3, _⟩ => ⟨v, h1, h2, h3⟩), by simp, by simp, fun _ => ⟨rfl, s', t4, t5, by omega, by omega, t6, t3, t7, hgb.1, by omega, hlen⟩⟩
    · exact ⟨zs, 0, false, hl, fun w ao cap hI => impl_Take_no w ao cap zs kind n hI hl hok (.inl hA), fun w ao cap hI => (spec_Take_arg w ao cap zs kind n hI hl hok hA).mono (fun _ _ ⟨v, h1, h2, h3, _⟩ => ⟨v, h1, h2, h3⟩), by simp, by simp, by simp⟩
end Go.Proofs.Ytaclgpkcdbikhaa
