/-
  The contracts of the draws of chapter 1 (spec.DrawWrap, DrawIntOf, DrawBoolOf, DrawRefOf, DrawKind, DrawNum, DrawValueOk): each returns an integer that fits, or a bool, and turns no memory that was there.
-/
import Derived.Test.YtdcjfeihcafndaaDraw
namespace Go.Proofs.Ytdcjfeihcafndaa
open Go.RowKit

def numList : List Int := [0, 1, 2, -1, -5, 77, 1999, 2000, 2147483647, 2147483648, -2147483648, -2147483649, 4294967296, 9223372036854775807, -9223372036854775808]
def anyList : List Int := [0, 1, 2, 5, 1999, 2000, -1]
theorem numList_in : ∀ x ∈ numList, -9223372036854775808 ≤ x ∧ x ≤ 9223372036854775807 := by decide
theorem anyList_in : ∀ x ∈ anyList, -1 ≤ x ∧ x ≤ 2000 := by decide

theorem l1DrawNum_ok (c : Nat) (a : Option Addr) (len cap : Nat) (z : Nat → Int) (w : World) (h : Cur w c a len cap z) :
    Calls Try.prog 19 #[.pointer (some ⟨c, 0, none⟩)] w fun e w' => ∃ x : Int, e = .returned (.int .i64 x) ∧ (-9223372036854775808 ≤ x ∧ x ≤ 9223372036854775807) ∧ Keeps c w w' ∧ Cur w' c a len cap z := by
  go_enter Try.func19, Try.ntmps19
  go_wp2_with fail
  refine (l1PickInt_at c a len cap z numList 15 rfl (by omega) (by omega) _ _ rfl w h).mono ?_
  rintro e w1 ⟨x, rfl, hx, hk, hc⟩
  have hb := numList_in x hx
  clear hx
  go_wp2
  go_ret
  exact ⟨x, rfl, hb, hk, hc⟩

end Go.Proofs.Ytdcjfeihcafndaa
