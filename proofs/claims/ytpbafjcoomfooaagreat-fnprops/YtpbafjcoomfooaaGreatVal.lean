/-
  The contracts of chapter 1's functions, the program's own and their models: what each returns as a plain number or bool, with no memory turned.
-/
import Derived.Test.YtpbafjcoomfooaaGreatRows
import Derived.Test.YtpbafjcoomfooaaGreatPlain
import Derived.WalkKit
import Derived.WalkLawsBesides
import Derived.OpenShut
namespace Go.Proofs.YtpbafjcoomfooaaGreat
open Go.RowKit
attribute [local go_sem] Plain.and7 Plain.and32

def vRef (k a : Int) : Int := if 4 ≤ k ∧ k ≤ 7 ∧ 0 ≤ a ∧ a ≤ 1999 then 8 * a + k else 0
def vOk (v : Int) : Bool :=
  if v % 8 ≤ 1 then v / 8 == 0 else if v % 8 ≤ 2 then decide (0 ≤ v / 8 ∧ v / 8 ≤ 1) else if v % 8 ≤ 3 then decide (-2147483648 ≤ v / 8 ∧ v / 8 ≤ 2147483647) else decide (0 ≤ v / 8 ∧ v / 8 ≤ 1999)
theorem vOk_01 {v : Int} (h : v % 8 ≤ 1) : vOk v = (v / 8 == 0) := by simp [vOk, h]
theorem vOk_2 {v : Int} (h : v % 8 = 2) : vOk v = decide (0 ≤ v / 8 ∧ v / 8 ≤ 1) := by simp [vOk, h]
theorem vOk_3 {v : Int} (h : v % 8 = 3) : vOk v = decide (-2147483648 ≤ v / 8 ∧ v / 8 ≤ 2147483647) := by simp [vOk, h]
theorem vOk_4 {v : Int} (h : 4 ≤ v % 8) : vOk v = decide (0 ≤ v / 8 ∧ v / 8 ≤ 1999) := by
  simp only [vOk]
  rw [if_neg (by omega), if_neg (by omega), if_neg (by omega)]
theorem vOk_int (n : Int) : vOk (8 * wrap32 n + 3) = true := by
  have hb := Plain.wrap32_bd n
  rw [vOk_3 (by omega)]
  simp; omega
theorem vRef_yes {k a : Int} (h : 4 ≤ k ∧ k ≤ 7 ∧ 0 ≤ a ∧ a ≤ 1999) : vRef k a = 8 * a + k := if_pos h
theorem vRef_no {k a : Int} (h : ¬ (4 ≤ k ∧ k ≤ 7 ∧ 0 ≤ a ∧ a ≤ 1999)) : vRef k a = 0 := if_neg h
theorem vOk_ref {k a : Int} (h : 4 ≤ k ∧ k ≤ 7 ∧ 0 ≤ a ∧ a ≤ 1999) : vOk (8 * a + k) = true := by
  rw [vOk_4 (by omega)]
  simp; omega

theorem impl_Wrap_ok (n : Int) (w : World) :
    Calls Tryz.prog 143 #[.int .i64 n] w fun e w' => e = .returned (.int .i64 (wrap32 n)) ∧ w = w' := by
  have hb := Plain.wrap32_bd n
  go_enter Tryz.func143, Tryz.ntmps143
  go_wp2
  go_ret
  exact ⟨rfl, rfl⟩

theorem impl_value_kind_ok (v : Int) (w : World) :
    Calls Tryz.prog 102 #[.int .i64 v] w fun e w' => e = .returned (.int .i64 (v % 8)) ∧ w = w' := by
  go_enter Tryz.func102, Tryz.ntmps102
  go_wp2
  go_ret
  exact ⟨rfl, rfl⟩

theorem impl_value_num_ok (v : Int) (w : World) (h0 : -9223372036854775808 ≤ v) (h1 : v ≤ 9223372036854775807) :
    Calls Tryz.prog 73 #[.int .i64 v] w fun e w' => e = .returned (.int .i64 (v / 8)) ∧ w = w' := by
  have e := Plain.num_is' v
  go_enter Tryz.func73, Tryz.ntmps73
  go_wp2
  go_ret
  exact ⟨rfl, rfl⟩

theorem impl_Kind_ok (v : Int) (w : World) :
    Calls Tryz.prog 107 #[.int .i64 v] w fun e w' => e = .returned (.int .i64 (v % 8)) ∧ w = w' := by
  go_enter Tryz.func107, Tryz.ntmps107
  go_wp2
  go_ret
  exact ⟨rfl, rfl⟩

theorem impl_Num_ok (v : Int) (w : World) (h0 : -9223372036854775808 ≤ v) (h1 : v ≤ 9223372036854775807) :
    Calls Tryz.prog 34 #[.int .i64 v] w fun e w' => e = .returned (.int .i64 (v / 8)) ∧ w = w' := by
  have e := Plain.num_is' v
  go_enter Tryz.func34, Tryz.ntmps34
  go_wp2
  go_ret
  exact ⟨rfl, rfl⟩



theorem impl_RefOf_ok (k a : Int) (w : World) :
    Calls Tryz.prog 37 #[.int .i64 k, .int .i64 a] w fun e w' => e = .returned (.int .i64 (vRef k a)) ∧ w = w' := by
  by_cases h : 4 ≤ k ∧ k ≤ 7 ∧ 0 ≤ a ∧ a ≤ 1999
  · rw [vRef_yes h]
    obtain ⟨h1, h2, h3, h4⟩ := h
    have b2 : decide (a ≤ 1999) = true := by simp; omega
    have b3 : decide (a < 2000) = true := by simp; omega
    go_enter Tryz.func37, Tryz.ntmps37
    go_wp2
    go_ret
    exact ⟨rfl, rfl⟩
  · rw [vRef_no h]
    by_cases h1 : 4 ≤ k
    · by_cases h2 : k ≤ 7
      · by_cases h3 : 0 ≤ a
        · have h4 : 1999 < a := by omega
          have b2 : decide (a ≤ 1999) = false := by simp; omega
          have b3 : decide (a < 2000) = false := by simp; omega
          clear h
          go_enter Tryz.func37, Tryz.ntmps37
          go_wp2
          go_ret
          exact ⟨rfl, rfl⟩
        · clear h
          go_enter Tryz.func37, Tryz.ntmps37
          go_wp2
          go_ret
          exact ⟨rfl, rfl⟩
      · clear h
        go_enter Tryz.func37, Tryz.ntmps37
        go_wp2
        go_ret
        exact ⟨rfl, rfl⟩
    · clear h
      go_enter Tryz.func37, Tryz.ntmps37
      go_wp2
      go_ret
      exact ⟨rfl, rfl⟩


theorem spec_Wrap_ok (n : Int) (w : World) :
    Calls Tryz.prog 149 #[.int .i64 n] w fun e w' => e = .returned (.int .i64 (wrap32 n)) ∧ w = w' := by
  by_cases c : 2147483647 < n % 4294967296
  · have e := Plain.wrap32_hi n c
    go_enter Tryz.func149, Tryz.ntmps149
    go_wp2
    go_ret
    exact ⟨by first | rfl | (rw [e]; rfl), rfl⟩
  · have e := Plain.wrap32_lo n (by omega)
    go_enter Tryz.func149, Tryz.ntmps149
    go_wp2
    go_ret
    exact ⟨by first | rfl | (rw [e]; rfl), rfl⟩

theorem spec_Kind_ok (v : Int) (w : World) :
    Calls Tryz.prog 50 #[.int .i64 v] w fun e w' => e = .returned (.int .i64 (v % 8)) ∧ w = w' := by
  go_enter Tryz.func50, Tryz.ntmps50
  go_wp2
  go_ret
  exact ⟨rfl, rfl⟩

theorem spec_Num_ok (v : Int) (w : World) :
    Calls Tryz.prog 53 #[.int .i64 v] w fun e w' => e = .returned (.int .i64 (v / 8)) ∧ w = w' := by
  go_enter Tryz.func53, Tryz.ntmps53
  go_wp2
  go_ret
  exact ⟨rfl, rfl⟩

theorem spec_IntOf_ok (n : Int) (w : World) :
    Calls Tryz.prog 130 #[.int .i64 n] w fun e w' => e = .returned (.int .i64 (8 * wrap32 n + 3)) ∧ w = w' := by
  have hb := Plain.wrap32_bd n
  go_enter Tryz.func130, Tryz.ntmps130
  go_wp2_with (first | (go_at_call 149; refine (spec_Wrap_ok n w).mono ?_; rintro e w1 ⟨rfl, rfl⟩) | go_in)
  go_ret
  exact ⟨rfl, rfl⟩

theorem spec_BoolOf_ok (b : Bool) (w : World) :
    Calls Tryz.prog 131 #[.bool b] w fun e w' => e = .returned (.int .i64 (if b then 10 else 2)) ∧ w = w' := by
  cases b
  · go_enter Tryz.func131, Tryz.ntmps131
    go_wp2
    go_ret
    exact ⟨rfl, rfl⟩
  · go_enter Tryz.func131, Tryz.ntmps131
    go_wp2
    go_ret
    exact ⟨rfl, rfl⟩

theorem spec_RefOf_ok (k a : Int) (w : World) :
    Calls Tryz.prog 88 #[.int .i64 k, .int .i64 a] w fun e w' => e = .returned (.int .i64 (vRef k a)) ∧ w = w' := by
  by_cases h : 4 ≤ k ∧ k ≤ 7 ∧ 0 ≤ a ∧ a ≤ 1999
  · rw [vRef_yes h]
    obtain ⟨h1, h2, h3, h4⟩ := h
    have b2 : decide (a ≤ 1999) = true := by simp; omega
    have b3 : decide (a < 2000) = true := by simp; omega
    go_enter Tryz.func88, Tryz.ntmps88
    go_wp2
    go_ret
    exact ⟨rfl, rfl⟩
  · rw [vRef_no h]
    by_cases h1 : 4 ≤ k
    · by_cases h2 : k ≤ 7
      · by_cases h3 : 0 ≤ a
        · have h4 : 1999 < a := by omega
          have b2 : decide (a ≤ 1999) = false := by simp; omega
          have b3 : decide (a < 2000) = false := by simp; omega
          clear h
          go_enter Tryz.func88, Tryz.ntmps88
          go_wp2
          go_ret
          exact ⟨rfl, rfl⟩
        · clear h
          go_enter Tryz.func88, Tryz.ntmps88
          go_wp2
          go_ret
          exact ⟨rfl, rfl⟩
      · clear h
        go_enter Tryz.func88, Tryz.ntmps88
        go_wp2
        go_ret
        exact ⟨rfl, rfl⟩
    · clear h
      go_enter Tryz.func88, Tryz.ntmps88
      go_wp2
      go_ret
      exact ⟨rfl, rfl⟩

set_option maxHeartbeats 1000000 in
theorem spec_ValueOk_ok (v : Int) (w : World) (h0 : -9223372036854775808 ≤ v) (h1 : v ≤ 9223372036854775807) :
    Calls Tryz.prog 105 #[.int .i64 v] w fun e w' => e = .returned (.bool (vOk v)) ∧ w = w' := by
  have e := Plain.num_is' v
  by_cases k0 : v % 8 ≤ 0
  · rw [vOk_01 (by omega)]
    go_enter Tryz.func105, Tryz.ntmps105
    go_wp2
    go_ret
    exact ⟨rfl, rfl⟩
  by_cases k1 : v % 8 ≤ 1
  · rw [vOk_01 (by omega)]
    go_enter Tryz.func105, Tryz.ntmps105
    go_wp2
    go_ret
    exact ⟨rfl, rfl⟩
  by_cases k2 : v % 8 ≤ 2
  · rw [vOk_2 (by omega)]
    by_cases n0 : v / 8 < 0
    · have b0 : (v / 8 == 0) = false := by simp; omega
      have b1 : (v / 8 == 1) = false := by simp; omega
      rw [show decide (0 ≤ v / 8 ∧ v / 8 ≤ 1) = false by simp; omega]
      go_enter Tryz.func105, Tryz.ntmps105
      go_wp2
      go_ret
      exact ⟨rfl, rfl⟩
    by_cases n1 : v / 8 ≤ 0
    · have b0 : (v / 8 == 0) = true := by simp; omega
      have b2 : decide (v / 8 ≤ 1) = true := by simp; omega
      rw [show decide (0 ≤ v / 8 ∧ v / 8 ≤ 1) = true by simp; omega]
      go_enter Tryz.func105, Tryz.ntmps105
      go_wp2
      go_ret
      exact ⟨rfl, rfl⟩
    by_cases n2 : v / 8 ≤ 1
    · have b0 : (v / 8 == 0) = false := by simp; omega
      have b1 : (v / 8 == 1) = true := by simp; omega
      have b2 : decide (v / 8 ≤ 1) = true := by simp; omega
      rw [show decide (0 ≤ v / 8 ∧ v / 8 ≤ 1) = true by simp; omega]
      go_enter Tryz.func105, Tryz.ntmps105
      go_wp2
      go_ret
      exact ⟨rfl, rfl⟩
    · have b0 : (v / 8 == 0) = false := by simp; omega
      have b1 : (v / 8 == 1) = false := by simp; omega
      have b2 : decide (v / 8 ≤ 1) = false := by simp; omega
      rw [show decide (0 ≤ v / 8 ∧ v / 8 ≤ 1) = false by simp; omega]
      go_enter Tryz.func105, Tryz.ntmps105
      go_wp2
      go_ret
      exact ⟨rfl, rfl⟩
  by_cases k3 : v % 8 ≤ 3
  · rw [vOk_3 (by omega)]
    by_cases r0 : -2147483648 ≤ v / 8
    · by_cases r1 : v / 8 ≤ 2147483647
      · have ew := IntWalk.wrap32_in (v / 8) ⟨r0, r1⟩
        have b2 : decide (v / 8 ≤ 2147483647) = true := by simp; omega
        rw [show decide (-2147483648 ≤ v / 8 ∧ v / 8 ≤ 2147483647) = true by simp; omega]
        go_enter Tryz.func105, Tryz.ntmps105
        go_wp2
        go_ret
        exact ⟨rfl, rfl⟩
      · have hr := Plain.wrap32_bd (v / 8)
        have hne : (v / 8 == wrap32 (v / 8)) = false := by simp; omega
        have b2 : decide (v / 8 ≤ 2147483647) = false := by simp; omega
        rw [show decide (-2147483648 ≤ v / 8 ∧ v / 8 ≤ 2147483647) = false by simp; omega]
        go_enter Tryz.func105, Tryz.ntmps105
        go_wp2
        go_ret
        exact ⟨rfl, rfl⟩
    · have hr := Plain.wrap32_bd (v / 8)
      have hne : (v / 8 == wrap32 (v / 8)) = false := by simp; omega
      rw [show decide (-2147483648 ≤ v / 8 ∧ v / 8 ≤ 2147483647) = false by simp; omega]
      go_enter Tryz.func105, Tryz.ntmps105
      go_wp2
      go_ret
      exact ⟨rfl, rfl⟩
  · rw [vOk_4 (by omega)]
    by_cases r0 : 0 ≤ v / 8
    · by_cases r1 : v / 8 ≤ 1999
      · have b2 : decide (v / 8 ≤ 1999) = true := by simp; omega
        have b3 : decide (v / 8 < 2000) = true := by simp; omega
        rw [show decide (0 ≤ v / 8 ∧ v / 8 ≤ 1999) = true by simp; omega]
        go_enter Tryz.func105, Tryz.ntmps105
        go_wp2
        go_ret
        exact ⟨rfl, rfl⟩
      · have b2 : decide (v / 8 ≤ 1999) = false := by simp; omega
        have b3 : decide (v / 8 < 2000) = false := by simp; omega
        rw [show decide (0 ≤ v / 8 ∧ v / 8 ≤ 1999) = false by simp; omega]
        go_enter Tryz.func105, Tryz.ntmps105
        go_wp2
        go_ret
        exact ⟨rfl, rfl⟩
    · rw [show decide (0 ≤ v / 8 ∧ v / 8 ≤ 1999) = false by simp; omega]
      go_enter Tryz.func105, Tryz.ntmps105
      go_wp2
      go_ret
      exact ⟨rfl, rfl⟩

end Go.Proofs.YtpbafjcoomfooaaGreat
