/-
  Plain facts on integers, with no program in sight: what the masks of 64-bit integers are as remainders, and what a number is that went round at 32 bits.
-/
import Derived.Laws.BitsLemmas
import Derived.RowKit
namespace Go.Proofs.YtpbafjcoomfooaaGreat.Plain
open Go.RowKit

theorem and_mask (m : Nat) (hm : m ≤ 62) (n : Int) : bits .and .i64 n ((2 ^ m - 1 : Nat) : Int) = n % ((2 ^ m : Nat) : Int) := by
  have hp : 2 ^ m ≤ 2 ^ 62 := Nat.pow_le_pow_right (by decide) hm
  have hpos : 0 < 2 ^ m := Nat.pos_of_ne_zero (by simp)
  have hdvd : (2 ^ m : Nat) ∣ 2 ^ 64 := Nat.pow_dvd_pow 2 (by omega)
  have hk : (BitVec.ofInt 64 ((2 ^ m - 1 : Nat) : Int)).toNat = 2 ^ m - 1 := by
    rw [BitVec.toNat_ofInt]
    omega
  have key : (BitVec.ofInt 64 n &&& BitVec.ofInt 64 ((2 ^ m - 1 : Nat) : Int)).toNat = (n % ((2 ^ 64 : Nat) : Int)).toNat % 2 ^ m := by
    rw [BitVec.toNat_and, BitVec.toNat_ofInt, hk, Nat.and_two_pow_sub_one_eq_mod]
  show IntKind.i64.wrap ((BitVec.ofInt 64 n &&& BitVec.ofInt 64 ((2 ^ m - 1 : Nat) : Int)).toNat : Nat) = _
  rw [key, IntKind.wrap_i64]
  have h1 : ((n % ((2 ^ 64 : Nat) : Int)).toNat : Int) = n % ((2 ^ 64 : Nat) : Int) := Int.toNat_of_nonneg (Int.emod_nonneg _ (by decide))
  have h2 : (((n % ((2 ^ 64 : Nat) : Int)).toNat % 2 ^ m : Nat) : Int) = n % ((2 ^ m : Nat) : Int) := by
    rw [Int.natCast_emod, h1, Int.emod_emod_of_dvd _ (Int.natCast_dvd_natCast.2 hdvd)]
  rw [h2]
  have h3 : 0 ≤ n % ((2 ^ m : Nat) : Int) := Int.emod_nonneg _ (by omega)
  have h4 : n % ((2 ^ m : Nat) : Int) < ((2 ^ m : Nat) : Int) := Int.emod_lt_of_pos _ (by omega)
  omega

theorem and7 (n : Int) : bits .and .i64 n 7 = n % 8 := and_mask 3 (by decide) n
theorem and255 (n : Int) : bits .and .i64 n 255 = n % 256 := and_mask 8 (by decide) n
theorem and30 (n : Int) : bits .and .i64 n 1073741823 = n % 1073741824 := and_mask 30 (by decide) n
theorem and32 (n : Int) : bits .and .i64 n 4294967295 = n % 4294967296 := and_mask 32 (by decide) n

theorem wrap32_bd (n : Int) : -2147483648 ≤ wrap32 n ∧ wrap32 n ≤ 2147483647 := by unfold wrap32; omega
theorem wrap32_hi (n : Int) (h : 2147483647 < n % 4294967296) : wrap32 n = n % 4294967296 - 4294967296 := by unfold wrap32; omega
theorem wrap32_lo (n : Int) (h : n % 4294967296 ≤ 2147483647) : wrap32 n = n % 4294967296 := by unfold wrap32; omega
theorem wrap32_twice (n : Int) : wrap32 (wrap32 n) = wrap32 n := by unfold wrap32; omega
theorem wrap32_round (n : Int) : wrap32 (wrap64 (n + 4294967296)) = wrap32 n := by unfold wrap32 wrap64; omega
theorem num_is (n : Int) (h0 : -9223372036854775808 ≤ n) (h1 : n ≤ 9223372036854775807) : wrap64 ((wrap64 (n - n % 8)).tdiv 8) = n / 8 := by
  have e1 : wrap64 (n - n % 8) = n - n % 8 := by unfold wrap64; omega
  rw [e1, show n - n % 8 = 8 * (n / 8) by omega, Int.mul_tdiv_cancel_left _ (by decide)]
  unfold wrap64; omega
theorem num_is' (n : Int) : (n - n % 8).tdiv 8 = n / 8 := by
  rw [show n - n % 8 = 8 * (n / 8) by omega, Int.mul_tdiv_cancel_left _ (by decide)]

end Go.Proofs.YtpbafjcoomfooaaGreat.Plain
