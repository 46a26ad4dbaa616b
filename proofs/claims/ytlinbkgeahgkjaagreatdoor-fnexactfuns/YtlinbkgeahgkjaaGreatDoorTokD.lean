/-
  The contract of chapter 11's model l11Sign.
-/
import Derived.Test.YtlinbkgeahgkjaaGreatDoorTokB
namespace Go.Proofs.YtlinbkgeahgkjaaGreatDoor
open Go.RowKit
set_option linter.unusedSimpArgs false

def signsT : ByteArray := ⟨#[40, 41, 123, 125, 44, 59, 58, 46, 61, 43, 45, 42, 60, 33]⟩
theorem signsT_size : signsT.size = 14 := by decide +kernel
def signIn (b : Int) : Bool := (List.range 14).any fun j => decide (byteN signsT j = b)
def twoEq (t : ByteArray) (a : Nat) : Bool := decide (byteN t a = 61) && (decide (a + 1 < t.size) && decide (byteN t (a + 1) = 61))
def signT (t : ByteArray) (a : Nat) : ByteArray := if twoEq t a then ⟨#[61, 61]⟩ else if signIn (byteN t a) then t.extract a (a + 1) else ⟨#[]⟩
set_option maxHeartbeats 8000000 in
set_option maxRecDepth 100000 in
theorem l11Sign_loop (w : World) (t : ByteArray) (a : Nat) (ha : a < t.size) (ht : t.size ≤ 1048576) (hno : twoEq t a = false) :
    Calls Tryz.prog 90 #[.string t, .int .i64 (a : Nat)] w fun e w' => e = .returned (.string (signT t a)) ∧ Kept w w' := by
  have q0 : (a : Int) < (t.size : Int) := by omega
  have hS : signT t a = if signIn (byteN t a) then t.extract a (a + 1) else ⟨#[]⟩ := by unfold signT; rw [if_neg (by rw [hno]; simp)]
  obtain ⟨a1, ha1⟩ : ∃ a1, a + 1 = a1 := ⟨_, rfl⟩
  have hA1 : (a : Int) + 1 = (a1 : Int) := by omega
  have q9 : a ≤ a1 := by omega
  have q8 : a1 ≤ t.size := by omega
  rw [ha1] at hS
  have HS : Hid (signT t a = if signIn (byteN t a) then t.extract a a1 else ⟨#[]⟩) := hS
  clear hS
  have h1 : (((t[a].toNat : Int) == 61) = false) ∨ (((t[a].toNat : Int) == 61) = true ∧ ((¬ (a1 : Int) < (t.size : Int)) ∨ ∃ h : a1 < t.size, (((t[a1].toNat : Int) == 61) = false))) := by
    rw [byteN_get t a ha]
    unfold twoEq at hno
    by_cases c1 : byteN t a = 61
    · refine .inr ⟨by simp [c1], ?_⟩
      by_cases c2 : a + 1 < t.size
      · refine .inr ⟨by omega, ?_⟩
        rw [byteN_get t a1 (by omega), ← ha1]
        simp [c1, c2] at hno
        simpa using hno
      · exact .inl (by omega)
    · exact .inl (by simpa using c1)
  clear ha1 hno
  rcases h1 with h1 | ⟨h1, h2 | ⟨h2, h3⟩⟩
  all_goals (
    go_enter Tryz.func90, Tryz.ntmps90
    try (have h2' : (a1 : Int) < (t.size : Int) := by omega)
    go_wp2_with fail
    go_loopw [6] (fun iv wr => ∃ (k : Nat), iv = .int .i64 k ∧ k ≤ 14 ∧ Hid (∀ j, j < k → byteN signsT j ≠ byteN t a) ∧ Hid (Kept w wr)) (fun i _ => 14 - (intOf i).toNat)
    case atStart => exact ⟨0, rfl, Nat.zero_le _, fun j hj => by omega, Below.refl _ _⟩
    case round =>
      obtain ⟨k, rfl, hk, hN, hK⟩ := hrel
      by_cases hlt : k < 14
      · have q1 : (k : Int) < 14 := by omega
        have q2 : (k : Int) < (signsT.size : Int) := by rw [signsT_size]; omega
        go_wp2_with fail
        go_region
        go_wp2_with fail
        all_goals (
          rename_i hb
          first
            | (have hc : byteN signsT k = byteN t a := by
                 rw [← byteN_get signsT k (by rw [signsT_size]; exact hlt), ← byteN_get t a ha]
                 exact beq_iff_eq.1 hb
               have hi : signIn (byteN t a) = true := List.any_eq_true.2 ⟨k, List.mem_range.2 hlt, by simp [hc]⟩
               go_ret
               exact ⟨by rw [HS.out, if_pos hi]; rfl, hK.out.trans (Below.refl _ _).drew⟩)
            | (have hc : byteN signsT k ≠ byteN t a := by
                 rw [← byteN_get signsT k (by rw [signsT_size]; exact hlt), ← byteN_get t a ha]
                 intro e
                 have h2 := beq_eq_false_iff_ne.1 hb
                 exact h2 e
               exact ⟨⟨k + 1, by go_num, by omega, fun j hj => (by
                 by_cases hjk : j = k
                 · rw [hjk]; exact hc
                 · exact hN.out j (by omega)), hK.out.trans (Below.refl _ _).drew⟩, by simp [intOf]; omega⟩))
      · have q1 : ¬ (k : Int) < 14 := by omega
        go_wp2_with fail
        have hi : signIn (byteN t a) = false := by
          cases h : signIn (byteN t a) with
          | false => rfl
          | true =>
            obtain ⟨j, hj, e⟩ := List.any_eq_true.1 h
            exact absurd (by simpa using e) (hN.out j (by have := List.mem_range.1 hj; omega))
        go_ret
        exact ⟨by rw [HS.out, if_neg (by rw [hi]; simp)]; rfl, hK.out⟩)
set_option maxHeartbeats 8000000 in
set_option maxRecDepth 100000 in
theorem l11Sign_ok (w : World) (t : ByteArray) (a : Nat) (ha : a < t.size) (ht : t.size ≤ 1048576) :
    Calls Tryz.prog 90 #[.string t, .int .i64 (a : Nat)] w fun e w' => e = .returned (.string (signT t a)) ∧ Kept w w' := by
  cases hno : twoEq t a with
  | false => exact l11Sign_loop w t a ha ht hno
  | true =>
    have HS : Hid (signT t a = ⟨#[61, 61]⟩) := by unfold Hid signT; rw [if_pos hno]
    unfold twoEq at hno
    simp only [Bool.and_eq_true, decide_eq_true_eq] at hno
    obtain ⟨c1, c2, c3⟩ := hno
    obtain ⟨a1, ha1⟩ : ∃ a1, a + 1 = a1 := ⟨_, rfl⟩
    rw [ha1] at c2 c3
    have hA1 : (a : Int) + 1 = (a1 : Int) := by omega
    have q0 : (a : Int) < (t.size : Int) := by omega
    have q1 : (a1 : Int) < (t.size : Int) := by omega
    have h1 : ((t[a].toNat : Int) == 61) = true := by rw [byteN_get t a ha]; simp [c1]
    have h3 : ((t[a1].toNat : Int) == 61) = true := by rw [byteN_get t a1 c2]; simp [c3]
    clear c1 c3 ha1
    go_enter Tryz.func90, Tryz.ntmps90
    go_wp2_with fail
    go_ret
    exact ⟨by rw [HS.out]; rfl, Below.refl _ _⟩
end Go.Proofs.YtlinbkgeahgkjaaGreatDoor
