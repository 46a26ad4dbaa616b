/-
  wordsAre.
-/
import Derived.Test.YtpbafjcoomfooaaGreatZTextA
import Derived.Test.YtpbafjcoomfooaaGreatBytP
namespace Go.Proofs.YtpbafjcoomfooaaGreat
open Go.RowKit

/-- The words are these bytes. -/
def sameAs (g : Nat → Int) (t : ByteArray) (k : Nat) : Bool := (List.range k).all (fun i => decide (g i = byteN t i))
theorem sameAs_succ (g : Nat → Int) (t : ByteArray) (k : Nat) : sameAs g t (k + 1) = (sameAs g t k && decide (g k = byteN t k)) := by
  unfold sameAs
  rw [List.range_succ, List.all_append]
  simp
theorem sameAs_not {g : Nat → Int} {t : ByteArray} {k n : Nat} (h : k < n) (hk : g k ≠ byteN t k) : sameAs g t n = false := by
  cases e : sameAs g t n with
  | false => rfl
  | true =>
    have := List.all_eq_true.1 e k (List.mem_range.2 h)
    simp at this
    exact absurd this hk

set_option maxHeartbeats 4000000 in
set_option maxRecDepth 100000 in
theorem wordsAre_ok (w : World) (bb off L cap : Nat) (g : Nat → Int) (t : ByteArray) (hL : t.size ≤ L) (hm : L ≤ 1048576) (hc : ∀ i, i < t.size → w.cell? ⟨bb, off + i, none⟩ = some (.int .i64 (g i))) :
    Calls Tryz.prog 115 #[.slice (some ⟨bb, off, none⟩) L cap, .string t] w fun e w' => e = .returned (.bool (sameAs g t t.size)) ∧ Kept w w' := by
  go_enter Tryz.func115, Tryz.ntmps115
  go_wp2
  go_loopw [8] (fun i wr => ∃ k : Nat, i = .int .i64 k ∧ k ≤ t.size ∧ sameAs g t k = true ∧ Kept w wr ∧ Hid (∀ i, i < t.size → wr.cell? ⟨bb, off + i, none⟩ = some (.int .i64 (g i)))) (fun i _ => t.size - (intOf i).toNat)
  case atStart => exact ⟨0, rfl, Nat.zero_le _, rfl, Below.refl _ _, hc⟩
  case round =>
    obtain ⟨k, rfl, hk, hs, hK, hcr⟩ := hrel
    have HS : Hid (sameAs g t k = true) := hs
    clear hc hs
    by_cases hlt : k < t.size
    · have ck := hcr.out k hlt
      have q1 : (k : Int) < (t.size : Int) := by omega
      have q2 : (k : Int) < (L : Int) := by omega
      have hbb := byteN_in t k
      go_wp2
      go_region
      rw [byteN_get t k hlt, IntWalk.wrap64_in _ (by omega)]
      by_cases he : g k = byteN t k
      · have e1 : (g k != byteN t k) = false := by simp [he]
        rw [e1]
        have HS2 : Hid (sameAs g t (k + 1) = true) := by show _ = _; rw [sameAs_succ, HS.out]; simp [he]
        clear he e1
        go_wp2
        go_roundw
        case rel => exact ⟨k + 1, by go_num, by omega, HS2.out, hK.drew, hcr.out⟩
        case measure => simp [intOf]; omega
      · have e1 : (g k != byteN t k) = true := by simpa using he
        rw [e1]
        have HS2 : Hid (sameAs g t t.size = false) := sameAs_not hlt he
        clear he e1
        go_wp2
        go_ret
        exact ⟨by rw [HS2.out]; rfl, hK.drew⟩
    · have HS2 : Hid (sameAs g t t.size = true) := by
        obtain rfl : k = t.size := by omega
        exact HS.out
      go_wp2
      go_ret
      exact ⟨by rw [HS2.out]; rfl, hK⟩
end Go.Proofs.YtpbafjcoomfooaaGreat
