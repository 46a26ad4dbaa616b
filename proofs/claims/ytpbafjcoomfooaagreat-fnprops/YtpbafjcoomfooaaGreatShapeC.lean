/-
  The contracts of chapter 3's functions of the program that look at one word: its value, its role.
-/
import Derived.Test.YtpbafjcoomfooaaGreatShapeA
namespace Go.Proofs.YtpbafjcoomfooaaGreat
open Go.RowKit
attribute [local go_sem] Plain.and7 Plain.and32

set_option maxHeartbeats 1000000 in
theorem value_ok_ok (v : Int) (w : World) (h0 : -9223372036854775808 ≤ v) (h1 : v ≤ 9223372036854775807) :
    Calls Tryz.prog 100 #[.int .i64 v] w fun e w' => e = .returned (.bool (vOk v)) ∧ w = w' := by
  have e := Plain.num_is' v
  by_cases k0 : v % 8 ≤ 0
  · rw [vOk_01 (by omega)]
    go_enter Tryz.func100, Tryz.ntmps100
    go_wp2
    go_ret
    exact ⟨rfl, rfl⟩
  by_cases k1 : v % 8 ≤ 1
  · rw [vOk_01 (by omega)]
    go_enter Tryz.func100, Tryz.ntmps100
    go_wp2
    go_ret
    exact ⟨rfl, rfl⟩
  by_cases k2 : v % 8 ≤ 2
  · rw [vOk_2 (by omega)]
    by_cases n0 : v / 8 < 0
    · have b0 : (v / 8 == 0) = false := by simp; omega
      have b1 : (v / 8 == 1) = false := by simp; omega
      rw [show decide (0 ≤ v / 8 ∧ v / 8 ≤ 1) = false by simp; omega]
      go_enter Tryz.func100, Tryz.ntmps100
      go_wp2
      go_ret
      exact ⟨rfl, rfl⟩
    by_cases n1 : v / 8 ≤ 0
    · have b0 : (v / 8 == 0) = true := by simp; omega
      have b2 : decide (v / 8 ≤ 1) = true := by simp; omega
      rw [show decide (0 ≤ v / 8 ∧ v / 8 ≤ 1) = true by simp; omega]
      go_enter Tryz.func100, Tryz.ntmps100
      go_wp2
      go_ret
      exact ⟨rfl, rfl⟩
    by_cases n2 : v / 8 ≤ 1
    · have b0 : (v / 8 == 0) = false := by simp; omega
      have b1 : (v / 8 == 1) = true := by simp; omega
      have b2 : decide (v / 8 ≤ 1) = true := by simp; omega
      rw [show decide (0 ≤ v / 8 ∧ v / 8 ≤ 1) = true by simp; omega]
      go_enter Tryz.func100, Tryz.ntmps100
      go_wp2
      go_ret
      exact ⟨rfl, rfl⟩
    · have b0 : (v / 8 == 0) = false := by simp; omega
      have b1 : (v / 8 == 1) = false := by simp; omega
      have b2 : decide (v / 8 ≤ 1) = false := by simp; omega
      rw [show decide (0 ≤ v / 8 ∧ v / 8 ≤ 1) = false by simp; omega]
      go_enter Tryz.func100, Tryz.ntmps100
      go_wp2
      go_ret
      exact ⟨rfl, rfl⟩
  by_cases k3 : v % 8 ≤ 3
  · rw [vOk_3 (by omega)]
    by_cases r0 : -2147483648 ≤ v / 8
    · by_cases r1 : v / 8 ≤ 2147483647
      · have ew := IntWalk.wrap32_in (v / 8) ⟨r0, r1⟩
        have b2 : decide (v / 8 ≤ 2147483647) = true := by simp; omega
        rw [show decide (-2147483648 ≤ v / 8 ∧ v / 8 ≤ 2147483647) = true by simp; omega]
        go_enter Tryz.func100, Tryz.ntmps100
        go_wp2
        go_ret
        exact ⟨rfl, rfl⟩
      · have hr := Plain.wrap32_bd (v / 8)
        have hne : (v / 8 == wrap32 (v / 8)) = false := by simp; omega
        have b2 : decide (v / 8 ≤ 2147483647) = false := by simp; omega
        rw [show decide (-2147483648 ≤ v / 8 ∧ v / 8 ≤ 2147483647) = false by simp; omega]
        go_enter Tryz.func100, Tryz.ntmps100
        go_wp2
        go_ret
        exact ⟨rfl, rfl⟩
    · have hr := Plain.wrap32_bd (v / 8)
      have hne : (v / 8 == wrap32 (v / 8)) = false := by simp; omega
      rw [show decide (-2147483648 ≤ v / 8 ∧ v / 8 ≤ 2147483647) = false by simp; omega]
      go_enter Tryz.func100, Tryz.ntmps100
      go_wp2
      go_ret
      exact ⟨rfl, rfl⟩
  · rw [vOk_4 (by omega)]
    by_cases r0 : 0 ≤ v / 8
    · by_cases r1 : v / 8 ≤ 1999
      · have b2 : decide (v / 8 ≤ 1999) = true := by simp; omega
        have b3 : decide (v / 8 < 2000) = true := by simp; omega
        rw [show decide (0 ≤ v / 8 ∧ v / 8 ≤ 1999) = true by simp; omega]
        go_enter Tryz.func100, Tryz.ntmps100
        go_wp2
        go_ret
        exact ⟨rfl, rfl⟩
      · have b2 : decide (v / 8 ≤ 1999) = false := by simp; omega
        have b3 : decide (v / 8 < 2000) = false := by simp; omega
        rw [show decide (0 ≤ v / 8 ∧ v / 8 ≤ 1999) = false by simp; omega]
        go_enter Tryz.func100, Tryz.ntmps100
        go_wp2
        go_ret
        exact ⟨rfl, rfl⟩
    · rw [show decide (0 ≤ v / 8 ∧ v / 8 ≤ 1999) = false by simp; omega]
      go_enter Tryz.func100, Tryz.ntmps100
      go_wp2
      go_ret
      exact ⟨rfl, rfl⟩
def takesR (r k : Int) : Bool :=
  if r = 5 then decide (k = 1 ∨ k = 5) else if r = 6 ∨ r = 9 then decide (k = 0 ∨ k = 7) else if r = 7 then decide (k = 4) else if r = 8 then decide (k = 7) else if r = 10 then decide (k ≠ 7) else true
def goalR (r k : Int) : Int := if k = 4 then 1 else if k = 5 then 2 else if k = 6 then 4 else if r = 6 then 3 else 5
/-- A value may stand there, and leads to a block of the right kind, if it leads anywhere. -/
def valR (zs : List Int) (r v : Int) : Bool := vOk v && takesR r (v % 8) && (!(decide (4 ≤ v % 8)) || decide (kindAt zs (v / 8) = goalR r (v % 8)))
def wordR (zs : List Int) (r v : Int) : Bool :=
  if r = 0 then true else if r = 1 then decide (v = 0) else if r = 2 then true else if r = 3 then decide (0 ≤ v ∧ v ≤ 255) else if r = 4 then decide (0 ≤ v ∧ v ≤ 99) else valR zs r v
def sizeR (q : Nat) (n s : Int) : Bool := match q with
  | 1 => decide (0 ≤ n ∧ n ≤ s - 2)
  | 2 => decide (s = 3 ∨ s = 4)
  | 3 => decide (s = 4 ∨ s = 5)
  | 4 => decide (s = 3 ∨ s = 4)
  | _ => true
/-- The layout of a slab: at each place the kind of the block that begins there, or -1. -/
def lyt (zs : List Int) : List Int := (List.range zs.length).map (fun k => kindAt zs ((k : Nat) : Int))
theorem lyt_len (zs : List Int) : (lyt zs).length = zs.length := by simp [lyt]
theorem lyt_at {zs : List Int} {k : Nat} (h : k < zs.length) : hz (lyt zs) k = kindAt zs k := by simp [hz, lyt, h]
theorem kindAt_out {zs : List Int} {a : Int} (h : a < 0 ∨ (zs.length : Int) ≤ a) : kindAt zs a = -1 := by
  have : atB zs a = none := by
    cases hb : atB zs a with
    | none => rfl
    | some b =>
      have := (atB_some hb).2.1
      have := b.2
      omega
  simp [kindAt, this]

set_option maxHeartbeats 4000000 in
theorem takes_ok (r k : Int) (w : World) (h0 : 0 ≤ k) (h7 : k ≤ 7) : Calls Tryz.prog 101 #[.int .i64 r, .int .i64 k] w fun e w' => e = .returned (.bool (takesR r k)) ∧ w = w' := by
  by_cases h : 5 ≤ r ∧ r ≤ 10
  · rcases (show r = 5 ∨ r = 6 ∨ r = 7 ∨ r = 8 ∨ r = 9 ∨ r = 10 by omega) with rfl | rfl | rfl | rfl | rfl | rfl
    all_goals (
      rcases (show k = 0 ∨ k = 1 ∨ k = 2 ∨ k = 3 ∨ k = 4 ∨ k = 5 ∨ k = 6 ∨ k = 7 by omega) with rfl | rfl | rfl | rfl | rfl | rfl | rfl | rfl
      all_goals (
        clear h h0 h7
        go_enter Tryz.func101, Tryz.ntmps101
        go_wp2
        go_ret
        exact ⟨rfl, rfl⟩))
  · have h5 : (r == 5) = false := by simp; omega
    have h6 : (r == 6) = false := by simp; omega
    have h9 : (r == 9) = false := by simp; omega
    have h7' : (r == 7) = false := by simp; omega
    have h8 : (r == 8) = false := by simp; omega
    have h10 : (r == 10) = false := by simp; omega
    have HT : Hid (takesR r k = true) := by
      show _ = _
      unfold takesR
      rw [if_neg (by omega), if_neg (by omega), if_neg (by omega), if_neg (by omega), if_neg (by omega)]
    clear h
    go_enter Tryz.func101, Tryz.ntmps101
    go_wp2
    go_ret
    exact ⟨by rw [HT.out]; rfl, rfl⟩
set_option maxHeartbeats 4000000 in
theorem goal_ok (r k : Int) (w : World) (h4 : 4 ≤ k) (h7 : k ≤ 7) : Calls Tryz.prog 104 #[.int .i64 r, .int .i64 k] w fun e w' => e = .returned (.int .i64 (goalR r k)) ∧ w = w' := by
  by_cases h : r = 6
  · subst h
    rcases (show k = 4 ∨ k = 5 ∨ k = 6 ∨ k = 7 by omega) with rfl | rfl | rfl | rfl
    all_goals (
      go_enter Tryz.func104, Tryz.ntmps104
      go_wp2
      go_ret
      exact ⟨rfl, rfl⟩)
  · have hd : (r == 6) = false := by simpa using h
    have HG : Hid (¬ r = 6) := h
    clear h
    rcases (show k = 4 ∨ k = 5 ∨ k = 6 ∨ k = 7 by omega) with rfl | rfl | rfl | rfl
    all_goals (
      go_enter Tryz.func104, Tryz.ntmps104
      go_wp2
      go_ret
      exact ⟨by simp [goalR, HG.out], rfl⟩)
theorem leads_ok (k : Int) (w : World) (h : k ≤ 7) : Calls Tryz.prog 79 #[.int .i64 k] w fun e w' => e = .returned (.bool (decide (4 ≤ k))) ∧ w = w' := by
  by_cases h4 : 4 ≤ k
  all_goals (
    go_enter Tryz.func79, Tryz.ntmps79
    go_wp2
    go_ret
    exact ⟨by simp [h4], rfl⟩)
set_option maxHeartbeats 1000000 in
theorem oneMore_ok (s n : Int) (w : World) (h0 : 0 ≤ n) (h1 : n ≤ 100) : Calls Tryz.prog 155 #[.int .i64 s, .int .i64 n] w fun e w' => e = .returned (.bool (decide (s = n ∨ s = n + 1))) ∧ w = w' := by
  by_cases h : s = n
  · have hd : (s == n) = true := by simp [h]
    have HE : Hid (s = n) := h
    clear h
    go_enter Tryz.func155, Tryz.ntmps155
    go_wp2
    go_ret
    exact ⟨by simp [HE.out], rfl⟩
  · have hd : (s == n) = false := by simpa using h
    go_enter Tryz.func155, Tryz.ntmps155
    go_wp2
    go_ret
    refine ⟨?_, rfl⟩
    show Ending.returned (.bool (s == n + 1)) = _
    congr 2
    rw [Bool.eq_iff_iff]
    simp [h]
set_option maxHeartbeats 1000000 in
theorem lkindAt_ok (w : World) (lo : Option Addr) (lc : Nat) (zs : List Int) (a : Int) (hI : Ints w lo (lyt zs)) :
    Calls Tryz.prog 103 #[.slice lo zs.length lc, .int .i64 a] w fun e w' => e = .returned (.int .i64 (kindAt zs a)) ∧ w = w' := by
  rcases (show a < 0 ∨ (0 ≤ a ∧ (zs.length : Int) ≤ a) ∨ (0 ≤ a ∧ a < (zs.length : Int)) by omega) with h | ⟨h, h'⟩ | ⟨h, h'⟩
  · have HN : Hid (kindAt zs a = -1) := kindAt_out (.inl h)
    clear hI
    go_enter Tryz.func103, Tryz.ntmps103
    go_wp2
    go_ret
    exact ⟨by rw [HN.out]; rfl, rfl⟩
  · have HN : Hid (kindAt zs a = -1) := kindAt_out (.inr h')
    clear hI
    go_enter Tryz.func103, Tryz.ntmps103
    go_wp2
    go_ret
    exact ⟨by rw [HN.out]; rfl, rfl⟩
  · obtain ⟨k, rfl⟩ : ∃ k : Nat, a = k := ⟨a.toNat, by omega⟩
    have hk : k < zs.length := by omega
    obtain ⟨b, off, rfl, hc⟩ := hI.at (k := k) (by rw [lyt_len]; exact hk)
    have hck := hc k (by rw [lyt_len]; exact hk)
    rw [lyt_at hk] at hck
    clear hc hI
    go_enter Tryz.func103, Tryz.ntmps103
    go_wp2
    go_ret
    exact ⟨rfl, rfl⟩
end Go.Proofs.YtpbafjcoomfooaaGreat
