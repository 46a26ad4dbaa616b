/-
  The contracts of chapter 3's functions of the program that look at one word: its value, its role.
  The contracts of chapter 3's functions of the program that hold a word against its role, and a block against its shape's size.
  The contract of the program's (layout).blockOk: each word of a block is right in its role.
-/
import Derived.Deep.RegionHeld3
import Derived.Deep.CutRange
import Derived.Test.YtgempjjnfpmndaaGreatDoorZShapeA
namespace Go.Proofs.YtgempjjnfpmndaaGreatDoor
open Go.RowKit
attribute [local go_sem] Plain.and7 Plain.and32

set_option maxHeartbeats 1000000 in
theorem value_ok_ok (v : Int) (w : World) (h0 : -9223372036854775808 ≤ v) (h1 : v ≤ 9223372036854775807) :
    Calls Tryz.prog 147 #[.int .i64 v] w fun e w' => e = .returned (.bool (vOk v)) ∧ w = w' := by
  have e := Plain.num_is' v
  by_cases k0 : v % 8 ≤ 0
  · rw [vOk_01 (by omega)]
    go_enter Tryz.func147, Tryz.ntmps147
    go_wp2
    go_ret
    exact ⟨rfl, rfl⟩
  by_cases k1 : v % 8 ≤ 1
  · rw [vOk_01 (by omega)]
    go_enter Tryz.func147, Tryz.ntmps147
    go_wp2
    go_ret
    exact ⟨rfl, rfl⟩
  by_cases k2 : v % 8 ≤ 2
  · rw [vOk_2 (by omega)]
    by_cases n0 : v / 8 < 0
    · have b0 : (v / 8 == 0) = false := by simp; omega
      have b1 : (v / 8 == 1) = false := by simp; omega
      rw [show decide (0 ≤ v / 8 ∧ v / 8 ≤ 1) = false by simp; omega]
      go_enter Tryz.func147, Tryz.ntmps147
      go_wp2
      go_ret
      exact ⟨rfl, rfl⟩
    by_cases n1 : v / 8 ≤ 0
    · have b0 : (v / 8 == 0) = true := by simp; omega
      have b2 : decide (v / 8 ≤ 1) = true := by simp; omega
      rw [show decide (0 ≤ v / 8 ∧ v / 8 ≤ 1) = true by simp; omega]
      go_enter Tryz.func147, Tryz.ntmps147
      go_wp2
      go_ret
      exact ⟨rfl, rfl⟩
    by_cases n2 : v / 8 ≤ 1
    · have b0 : (v / 8 == 0) = false := by simp; omega
      have b1 : (v / 8 == 1) = true := by simp; omega
      have b2 : decide (v / 8 ≤ 1) = true := by simp; omega
      rw [show decide (0 ≤ v / 8 ∧ v / 8 ≤ 1) = true by simp; omega]
      go_enter Tryz.func147, Tryz.ntmps147
      go_wp2
      go_ret
      exact ⟨rfl, rfl⟩
    · have b0 : (v / 8 == 0) = false := by simp; omega
      have b1 : (v / 8 == 1) = false := by simp; omega
      have b2 : decide (v / 8 ≤ 1) = false := by simp; omega
      rw [show decide (0 ≤ v / 8 ∧ v / 8 ≤ 1) = false by simp; omega]
      go_enter Tryz.func147, Tryz.ntmps147
      go_wp2
      go_ret
      exact ⟨rfl, rfl⟩
  by_cases k3 : v % 8 ≤ 3
  · rw [vOk_3 (by omega)]
    by_cases r0 : -2147483648 ≤ v / 8
    · by_cases r1 : v / 8 ≤ 2147483647
      · have ew := IntWalk.wrap32_in (v / 8) ⟨r0, r1⟩
        have b2 : decide (v / 8 ≤ 2147483647) = true := by simp; omega
        rw [show decide (-2147483648 ≤ v / 8 ∧ v / 8 ≤ 2147483647) = true by simp; omega]
        go_enter Tryz.func147, Tryz.ntmps147
        go_wp2
        go_ret
        exact ⟨rfl, rfl⟩
      · have hr := Plain.wrap32_bd (v / 8)
        have hne : (v / 8 == wrap32 (v / 8)) = false := by simp; omega
        have b2 : decide (v / 8 ≤ 2147483647) = false := by simp; omega
        rw [show decide (-2147483648 ≤ v / 8 ∧ v / 8 ≤ 2147483647) = false by simp; omega]
        go_enter Tryz.func147, Tryz.ntmps147
        go_wp2
        go_ret
        exact ⟨rfl, rfl⟩
    · have hr := Plain.wrap32_bd (v / 8)
      have hne : (v / 8 == wrap32 (v / 8)) = false := by simp; omega
      rw [show decide (-2147483648 ≤ v / 8 ∧ v / 8 ≤ 2147483647) = false by simp; omega]
      go_enter Tryz.func147, Tryz.ntmps147
      go_wp2
      go_ret
      exact ⟨rfl, rfl⟩
  · rw [vOk_4 (by omega)]
    by_cases r0 : 0 ≤ v / 8
    · by_cases r1 : v / 8 ≤ 1999
      · have b2 : decide (v / 8 ≤ 1999) = true := by simp; omega
        have b3 : decide (v / 8 < 2000) = true := by simp; omega
        rw [show decide (0 ≤ v / 8 ∧ v / 8 ≤ 1999) = true by simp; omega]
        go_enter Tryz.func147, Tryz.ntmps147
        go_wp2
        go_ret
        exact ⟨rfl, rfl⟩
      · have b2 : decide (v / 8 ≤ 1999) = false := by simp; omega
        have b3 : decide (v / 8 < 2000) = false := by simp; omega
        rw [show decide (0 ≤ v / 8 ∧ v / 8 ≤ 1999) = false by simp; omega]
        go_enter Tryz.func147, Tryz.ntmps147
        go_wp2
        go_ret
        exact ⟨rfl, rfl⟩
    · rw [show decide (0 ≤ v / 8 ∧ v / 8 ≤ 1999) = false by simp; omega]
      go_enter Tryz.func147, Tryz.ntmps147
      go_wp2
      go_ret
      exact ⟨rfl, rfl⟩
def takesR (r k : Int) : Bool :=
  if r = 5 then decide (k = 1 ∨ k = 5) else if r = 6 ∨ r = 9 then decide (k = 0 ∨ k = 7) else if r = 7 then decide (k = 4) else if r = 8 then decide (k = 7) else if r = 10 then decide (k ≠ 7) else true
def goalR (r k : Int) : Int := if k = 4 then 1 else if k = 5 then 2 else if k = 6 then 4 else if r = 6 then 3 else 5
/-- A value may stand there, and leads to a block of the right kind, if it leads anywhere. -/
def valR (zs : List Int) (r v : Int) : Bool := vOk v && takesR r (v % 8) && (!(decide (4 ≤ v % 8)) || decide (kindAt zs (v / 8) = goalR r (v % 8)))
def wordR (zs : List Int) (r v : Int) : Bool :=
  if r = 0 then true else if r = 1 then decide (v = 0) else if r = 2 then true else if r = 3 then decide (0 ≤ v ∧ v ≤ 255) else if r = 4 then decide (0 ≤ v ∧ v ≤ 99) else valR zs r v
def sizeR (q : Nat) (n s : Int) : Bool := match q with
  | 1 => decide (0 ≤ n ∧ n ≤ s - 2)
  | 2 => decide (s = 3 ∨ s = 4)
  | 3 => decide (s = 4 ∨ s = 5)
  | 4 => decide (s = 3 ∨ s = 4)
  | _ => true
/-- The layout of a slab: at each place the kind of the block that begins there, or -1. -/
def lyt (zs : List Int) : List Int := (List.range zs.length).map (fun k => kindAt zs ((k : Nat) : Int))
theorem lyt_len (zs : List Int) : (lyt zs).length = zs.length := by simp [lyt]
theorem lyt_at {zs : List Int} {k : Nat} (h : k < zs.length) : hz (lyt zs) k = kindAt zs k := by simp [hz, lyt, h]
theorem kindAt_out {zs : List Int} {a : Int} (h : a < 0 ∨ (zs.length : Int) ≤ a) : kindAt zs a = -1 := by
  have : atB zs a = none := by
    cases hb : atB zs a with
    | none => rfl
    | some b =>
      have := (atB_some hb).2.1
      have := b.2
      omega
  simp [kindAt, this]

set_option maxHeartbeats 4000000 in
theorem takes_ok (r k : Int) (w : World) (h0 : 0 ≤ k) (h7 : k ≤ 7) : Calls Tryz.prog 148 #[.int .i64 r, .int .i64 k] w fun e w' => e = .returned (.bool (takesR r k)) ∧ w = w' := by
  by_cases h : 5 ≤ r ∧ r ≤ 10
  · rcases (show r = 5 ∨ r = 6 ∨ r = 7 ∨ r = 8 ∨ r = 9 ∨ r = 10 by omega) with rfl | rfl | rfl | rfl | rfl | rfl
    all_goals (
      rcases (show k = 0 ∨ k = 1 ∨ k = 2 ∨ k = 3 ∨ k = 4 ∨ k = 5 ∨ k = 6 ∨ k = 7 by omega) with rfl | rfl | rfl | rfl | rfl | rfl | rfl | rfl
      all_goals (
        clear h h0 h7
        go_enter Tryz.func148, Tryz.ntmps148
        go_wp2
        go_ret
        exact ⟨rfl, rfl⟩))
  · have h5 : (r == 5) = false := by simp; omega
    have h6 : (r == 6) = false := by simp; omega
    have h9 : (r == 9) = false := by simp; omega
    have h7' : (r == 7) = false := by simp; omega
    have h8 : (r == 8) = false := by simp; omega
    have h10 : (r == 10) = false := by simp; omega
    have HT : Hid (takesR r k = true) := by
      show _ = _
      unfold takesR
      rw [if_neg (by omega), if_neg (by omega), if_neg (by omega), if_neg (by omega), if_neg (by omega)]
    clear h
    go_enter Tryz.func148, Tryz.ntmps148
    go_wp2
    go_ret
    exact ⟨by rw [HT.out]; rfl, rfl⟩
set_option maxHeartbeats 4000000 in
theorem goal_ok (r k : Int) (w : World) (h4 : 4 ≤ k) (h7 : k ≤ 7) : Calls Tryz.prog 150 #[.int .i64 r, .int .i64 k] w fun e w' => e = .returned (.int .i64 (goalR r k)) ∧ w = w' := by
  by_cases h : r = 6
  · subst h
    rcases (show k = 4 ∨ k = 5 ∨ k = 6 ∨ k = 7 by omega) with rfl | rfl | rfl | rfl
    all_goals (
      go_enter Tryz.func150, Tryz.ntmps150
      go_wp2
      go_ret
      exact ⟨rfl, rfl⟩)
  · have hd : (r == 6) = false := by simpa using h
    have HG : Hid (¬ r = 6) := h
    clear h
    rcases (show k = 4 ∨ k = 5 ∨ k = 6 ∨ k = 7 by omega) with rfl | rfl | rfl | rfl
    all_goals (
      go_enter Tryz.func150, Tryz.ntmps150
      go_wp2
      go_ret
      exact ⟨by simp [goalR, HG.out], rfl⟩)
theorem leads_ok (k : Int) (w : World) (h : k ≤ 7) : Calls Tryz.prog 131 #[.int .i64 k] w fun e w' => e = .returned (.bool (decide (4 ≤ k))) ∧ w = w' := by
  by_cases h4 : 4 ≤ k
  all_goals (
    go_enter Tryz.func131, Tryz.ntmps131
    go_wp2
    go_ret
    exact ⟨by simp [h4], rfl⟩)
set_option maxHeartbeats 1000000 in
theorem oneMore_ok (s n : Int) (w : World) (h0 : 0 ≤ n) (h1 : n ≤ 100) : Calls Tryz.prog 199 #[.int .i64 s, .int .i64 n] w fun e w' => e = .returned (.bool (decide (s = n ∨ s = n + 1))) ∧ w = w' := by
  by_cases h : s = n
  · have hd : (s == n) = true := by simp [h]
    have HE : Hid (s = n) := h
    clear h
    go_enter Tryz.func199, Tryz.ntmps199
    go_wp2
    go_ret
    exact ⟨by simp [HE.out], rfl⟩
  · have hd : (s == n) = false := by simpa using h
    go_enter Tryz.func199, Tryz.ntmps199
    go_wp2
    go_ret
    refine ⟨?_, rfl⟩
    show Ending.returned (.bool (s == n + 1)) = _
    congr 2
    rw [Bool.eq_iff_iff]
    simp [h]
set_option maxHeartbeats 1000000 in
theorem lkindAt_ok (w : World) (lo : Option Addr) (lc : Nat) (zs : List Int) (a : Int) (hI : Ints w lo (lyt zs)) :
    Calls Tryz.prog 149 #[.slice lo zs.length lc, .int .i64 a] w fun e w' => e = .returned (.int .i64 (kindAt zs a)) ∧ w = w' := by
  rcases (show a < 0 ∨ (0 ≤ a ∧ (zs.length : Int) ≤ a) ∨ (0 ≤ a ∧ a < (zs.length : Int)) by omega) with h | ⟨h, h'⟩ | ⟨h, h'⟩
  · have HN : Hid (kindAt zs a = -1) := kindAt_out (.inl h)
    clear hI
    go_enter Tryz.func149, Tryz.ntmps149
    go_wp2
    go_ret
    exact ⟨by rw [HN.out]; rfl, rfl⟩
  · have HN : Hid (kindAt zs a = -1) := kindAt_out (.inr h')
    clear hI
    go_enter Tryz.func149, Tryz.ntmps149
    go_wp2
    go_ret
    exact ⟨by rw [HN.out]; rfl, rfl⟩
  · obtain ⟨k, rfl⟩ : ∃ k : Nat, a = k := ⟨a.toNat, by omega⟩
    have hk : k < zs.length := by omega
    obtain ⟨b, off, rfl, hc⟩ := hI.at (k := k) (by rw [lyt_len]; exact hk)
    have hck := hc k (by rw [lyt_len]; exact hk)
    rw [lyt_at hk] at hck
    clear hc hI
    go_enter Tryz.func149, Tryz.ntmps149
    go_wp2
    go_ret
    exact ⟨rfl, rfl⟩
end Go.Proofs.YtgempjjnfpmndaaGreatDoor
namespace Go.Proofs.YtgempjjnfpmndaaGreatDoor
open Go.RowKit
attribute [local go_sem] Plain.and7

set_option maxHeartbeats 4000000 in
theorem valueOk_ok (w : World) (lo : Option Addr) (lc : Nat) (zs : List Int) (r v : Int) (hI : Ints w lo (lyt zs)) (h0 : -9223372036854775808 ≤ v) (h1 : v ≤ 9223372036854775807) :
    Calls Tryz.prog 104 #[.slice lo zs.length lc, .int .i64 r, .int .i64 v] w fun e w' => e = .returned (.bool (valR zs r v)) ∧ w = w' := by
  have hk0 : 0 ≤ v % 8 := by omega
  have hk7 : v % 8 ≤ 7 := by omega
  have hV := value_ok_ok v w h0 h1
  have hT := takes_ok r (v % 8) w hk0 hk7
  have hL := leads_ok (v % 8) w hk7
  have hK := lkindAt_ok w lo lc zs (v / 8) hI
  cases hv : vOk v with
  | false =>
    have HR : Hid (valR zs r v = false) := by simp [Hid, valR, hv]
    rw [hv] at hV
    clear hv hT hL hK hI
    go_enter Tryz.func104, Tryz.ntmps104
    go_wp2_with (first | (go_at_call 147; refine hV.mono ?_; rintro e wx ⟨rfl, rfl⟩))
    go_ret
    exact ⟨by rw [HR.out]; rfl, rfl⟩
  | true =>
    rw [hv] at hV
    cases ht : takesR r (v % 8) with
    | false =>
      have HR : Hid (valR zs r v = false) := by simp [Hid, valR, ht]
      rw [ht] at hT
      clear hv ht hL hK hI
      go_enter Tryz.func104, Tryz.ntmps104
      go_wp2_with (first | (go_at_call 147; refine hV.mono ?_; rintro e wx ⟨rfl, rfl⟩) | (go_at_call 89; refine (impl_value_kind_ok _ _).mono ?_; rintro e wx ⟨rfl, rfl⟩) | (go_at_call 148; refine hT.mono ?_; rintro e wx ⟨rfl, rfl⟩))
      go_ret
      exact ⟨by rw [HR.out]; rfl, rfl⟩
    | true =>
      rw [ht] at hT
      by_cases h4 : 4 ≤ v % 8
      · have HR : Hid (valR zs r v = decide (kindAt zs (v / 8) = goalR r (v % 8))) := by simp [Hid, valR, hv, ht, h4]
        have hG := goal_ok r (v % 8) w h4 hk7
        have hd : decide (4 ≤ v % 8) = true := by simpa using h4
        rw [hd] at hL
        clear hv ht hI hd
        go_enter Tryz.func104, Tryz.ntmps104
        go_wp2_with (first | (go_at_call 147; refine hV.mono ?_; rintro e wx ⟨rfl, rfl⟩) | (go_at_call 89; refine (impl_value_kind_ok _ _).mono ?_; rintro e wx ⟨rfl, rfl⟩) | (go_at_call 148; refine hT.mono ?_; rintro e wx ⟨rfl, rfl⟩) | (go_at_call 131; refine hL.mono ?_; rintro e wx ⟨rfl, rfl⟩) | (go_at_call 88; refine (impl_value_num_ok _ _ h0 h1).mono ?_; rintro e wx ⟨rfl, rfl⟩) | (go_at_call 149; refine hK.mono ?_; rintro e wx ⟨rfl, rfl⟩) | (go_at_call 150; refine hG.mono ?_; rintro e wx ⟨rfl, rfl⟩))
        go_ret
        exact ⟨by rw [HR.out]; rfl, rfl⟩
      · have HR : Hid (valR zs r v = true) := by simp [Hid, valR, hv, ht, h4]
        have hd : decide (4 ≤ v % 8) = false := by simpa using h4
        rw [hd] at hL
        clear hv ht hI hd hK
        go_enter Tryz.func104, Tryz.ntmps104
        go_wp2_with (first | (go_at_call 147; refine hV.mono ?_; rintro e wx ⟨rfl, rfl⟩) | (go_at_call 89; refine (impl_value_kind_ok _ _).mono ?_; rintro e wx ⟨rfl, rfl⟩) | (go_at_call 148; refine hT.mono ?_; rintro e wx ⟨rfl, rfl⟩) | (go_at_call 131; refine hL.mono ?_; rintro e wx ⟨rfl, rfl⟩))
        go_ret
        exact ⟨by rw [HR.out]; rfl, rfl⟩
set_option maxHeartbeats 4000000 in
theorem wordOk_ok (w : World) (lo : Option Addr) (lc : Nat) (zs : List Int) (r v : Int) (hI : Ints w lo (lyt zs)) (h0 : -9223372036854775808 ≤ v) (h1 : v ≤ 9223372036854775807) (hr : 0 ≤ r) :
    Calls Tryz.prog 183 #[.slice lo zs.length lc, .int .i64 r, .int .i64 v] w fun e w' => e = .returned (.bool (wordR zs r v)) ∧ w = w' := by
  by_cases h5 : 5 ≤ r
  · have hV := valueOk_ok w lo lc zs r v hI h0 h1
    have HR : Hid (wordR zs r v = valR zs r v) := by
      show _ = _
      unfold wordR
      rw [if_neg (by omega), if_neg (by omega), if_neg (by omega), if_neg (by omega), if_neg (by omega)]
    have e0 : (r == 0) = false := by simp; omega
    have e1 : (r == 1) = false := by simp; omega
    have e2 : (r == 2) = false := by simp; omega
    have e3 : (r == 3) = false := by simp; omega
    have e4 : (r == 4) = false := by simp; omega
    clear hI
    go_enter Tryz.func183, Tryz.ntmps183
    go_wp2_with (go_at_call 104; refine hV.mono ?_; rintro e wx ⟨rfl, rfl⟩)
    go_ret
    exact ⟨by rw [HR.out]; rfl, rfl⟩
  · clear hI
    rcases (show r = 0 ∨ r = 1 ∨ r = 2 ∨ r = 3 ∨ r = 4 by omega) with rfl | rfl | rfl | rfl | rfl
    · go_enter Tryz.func183, Tryz.ntmps183
      go_wp2
      go_ret
      exact ⟨rfl, rfl⟩
    · go_enter Tryz.func183, Tryz.ntmps183
      go_wp2
      go_ret
      exact ⟨rfl, rfl⟩
    · go_enter Tryz.func183, Tryz.ntmps183
      go_wp2
      go_ret
      exact ⟨rfl, rfl⟩
    · by_cases hv : 0 ≤ v
      · have HR : Hid (wordR zs 3 v = decide (v ≤ 255)) := by simp [Hid, wordR, hv]
        go_enter Tryz.func183, Tryz.ntmps183
        go_wp2
        go_ret
        exact ⟨by rw [HR.out]; rfl, rfl⟩
      · have HR : Hid (wordR zs 3 v = false) := by simp [Hid, wordR, hv]
        go_enter Tryz.func183, Tryz.ntmps183
        go_wp2
        go_ret
        exact ⟨by rw [HR.out]; rfl, rfl⟩
    · by_cases hv : 0 ≤ v
      · have HR : Hid (wordR zs 4 v = decide (v ≤ 99)) := by simp [Hid, wordR, hv]
        go_enter Tryz.func183, Tryz.ntmps183
        go_wp2
        go_ret
        exact ⟨by rw [HR.out]; rfl, rfl⟩
      · have HR : Hid (wordR zs 4 v = false) := by simp [Hid, wordR, hv]
        go_enter Tryz.func183, Tryz.ntmps183
        go_wp2
        go_ret
        exact ⟨by rw [HR.out]; rfl, rfl⟩
theorem ta_text_text (v : Value) (w : World) : Sem.run Tryz.prog (Instr.typeAssert (.iface 204 v) 175 204 true) w = .ok (.tuple #[v, .bool true]) w := by kernel_rfl
theorem ta_obj_text (v : Value) (w : World) : Sem.run Tryz.prog (Instr.typeAssert (.iface 206 v) 175 204 true) w = .ok (.tuple #[.agg #[.int .i64 0], .bool false]) w := by kernel_rfl
theorem ta_obj_obj (v : Value) (w : World) : Sem.run Tryz.prog (Instr.typeAssert (.iface 206 v) 175 206 true) w = .ok (.tuple #[v, .bool true]) w := by kernel_rfl
theorem ta_cell_text (v : Value) (w : World) : Sem.run Tryz.prog (Instr.typeAssert (.iface 207 v) 175 204 true) w = .ok (.tuple #[.agg #[.int .i64 0], .bool false]) w := by kernel_rfl
theorem ta_cell_obj (v : Value) (w : World) : Sem.run Tryz.prog (Instr.typeAssert (.iface 207 v) 175 206 true) w = .ok (.tuple #[.agg #[], .bool false]) w := by kernel_rfl
theorem ta_cell_cell (v : Value) (w : World) : Sem.run Tryz.prog (Instr.typeAssert (.iface 207 v) 175 207 true) w = .ok (.tuple #[v, .bool true]) w := by kernel_rfl
theorem ta_fun_text (v : Value) (w : World) : Sem.run Tryz.prog (Instr.typeAssert (.iface 208 v) 175 204 true) w = .ok (.tuple #[.agg #[.int .i64 0], .bool false]) w := by kernel_rfl
theorem ta_fun_obj (v : Value) (w : World) : Sem.run Tryz.prog (Instr.typeAssert (.iface 208 v) 175 206 true) w = .ok (.tuple #[.agg #[], .bool false]) w := by kernel_rfl
theorem ta_fun_cell (v : Value) (w : World) : Sem.run Tryz.prog (Instr.typeAssert (.iface 208 v) 175 207 true) w = .ok (.tuple #[.agg #[], .bool false]) w := by kernel_rfl
theorem ta_fun_fun (v : Value) (w : World) : Sem.run Tryz.prog (Instr.typeAssert (.iface 208 v) 175 208 true) w = .ok (.tuple #[v, .bool true]) w := by kernel_rfl
theorem ta_scope_text (v : Value) (w : World) : Sem.run Tryz.prog (Instr.typeAssert (.iface 209 v) 175 204 true) w = .ok (.tuple #[.agg #[.int .i64 0], .bool false]) w := by kernel_rfl
theorem ta_scope_obj (v : Value) (w : World) : Sem.run Tryz.prog (Instr.typeAssert (.iface 209 v) 175 206 true) w = .ok (.tuple #[.agg #[], .bool false]) w := by kernel_rfl
theorem ta_scope_cell (v : Value) (w : World) : Sem.run Tryz.prog (Instr.typeAssert (.iface 209 v) 175 207 true) w = .ok (.tuple #[.agg #[], .bool false]) w := by kernel_rfl
theorem ta_scope_fun (v : Value) (w : World) : Sem.run Tryz.prog (Instr.typeAssert (.iface 209 v) 175 208 true) w = .ok (.tuple #[.agg #[], .bool false]) w := by kernel_rfl
theorem ta_free_text (v : Value) (w : World) : Sem.run Tryz.prog (Instr.typeAssert (.iface 210 v) 175 204 true) w = .ok (.tuple #[.agg #[.int .i64 0], .bool false]) w := by kernel_rfl
theorem ta_free_obj (v : Value) (w : World) : Sem.run Tryz.prog (Instr.typeAssert (.iface 210 v) 175 206 true) w = .ok (.tuple #[.agg #[], .bool false]) w := by kernel_rfl
theorem ta_free_cell (v : Value) (w : World) : Sem.run Tryz.prog (Instr.typeAssert (.iface 210 v) 175 207 true) w = .ok (.tuple #[.agg #[], .bool false]) w := by kernel_rfl
theorem ta_free_fun (v : Value) (w : World) : Sem.run Tryz.prog (Instr.typeAssert (.iface 210 v) 175 208 true) w = .ok (.tuple #[.agg #[], .bool false]) w := by kernel_rfl
attribute [local go_sem] ta_text_text ta_obj_text ta_obj_obj ta_cell_text ta_cell_obj ta_cell_cell ta_fun_text ta_fun_obj ta_fun_cell ta_fun_fun ta_scope_text ta_scope_obj ta_scope_cell ta_scope_fun ta_free_text ta_free_obj ta_free_cell ta_free_fun
set_option maxHeartbeats 4000000 in
set_option maxRecDepth 100000 in
theorem sizeOk_ok (w : World) (q : Nat) (n s : Int) (hq : q ≤ 5) (h2 : 2 ≤ s) (hs : s ≤ 1048576) :
    Calls Tryz.prog 182 #[shV q n, .int .i64 s] w fun e w' => e = .returned (.bool (sizeR q n s)) ∧ Kept w w' := by
  rcases (show q = 1 ∨ q = 2 ∨ q = 3 ∨ q = 4 ∨ q = 0 ∨ q = 5 by omega) with rfl | rfl | rfl | rfl | rfl | rfl
  · by_cases hn : 0 ≤ n
    · have HR : Hid (sizeR 1 n s = decide (n ≤ s - 2)) := by simp [Hid, sizeR, hn]
      simp only [shV]
      go_enter Tryz.func182, Tryz.ntmps182
      go_wp2
      go_ret
      exact ⟨by rw [HR.out]; rfl, Kept.alloc (Below.refl _ _) _⟩
    · have HR : Hid (sizeR 1 n s = false) := by simp [Hid, sizeR, hn]
      simp only [shV]
      go_enter Tryz.func182, Tryz.ntmps182
      go_wp2
      go_ret
      exact ⟨by rw [HR.out]; rfl, Kept.alloc (Below.refl _ _) _⟩
  · simp only [shV]
    go_enter Tryz.func182, Tryz.ntmps182
    go_wp2_with (go_at_call 199; refine (oneMore_ok _ _ _ (by omega) (by omega)).mono ?_; rintro e wx ⟨rfl, rfl⟩)
    go_ret
    exact ⟨by simp [sizeR], Kept.alloc (Below.refl _ _) _⟩
  · simp only [shV]
    go_enter Tryz.func182, Tryz.ntmps182
    go_wp2_with (go_at_call 199; refine (oneMore_ok _ _ _ (by omega) (by omega)).mono ?_; rintro e wx ⟨rfl, rfl⟩)
    go_ret
    exact ⟨by simp [sizeR], Kept.alloc (Below.refl _ _) _⟩
  · simp only [shV]
    go_enter Tryz.func182, Tryz.ntmps182
    go_wp2_with (go_at_call 199; refine (oneMore_ok _ _ _ (by omega) (by omega)).mono ?_; rintro e wx ⟨rfl, rfl⟩)
    go_ret
    exact ⟨by simp [sizeR], Kept.alloc (Below.refl _ _) _⟩
  all_goals (
    simp only [shV]
    go_enter Tryz.func182, Tryz.ntmps182
    go_wp2
    go_ret
    exact ⟨rfl, Below.refl _ _⟩)
end Go.Proofs.YtgempjjnfpmndaaGreatDoor
namespace Go.Proofs.YtgempjjnfpmndaaGreatDoor
open Go.RowKit
attribute [local go_sem] Plain.and7 mFree mText mObj mCell mFun mScope

/-- The words of a block up to word k are right. -/
def wordsR (zs : List Int) (a q : Nat) (k : Nat) : Bool := (List.range k).all (fun i => i == 0 || wordR zs (roleOf q (hz zs (a + 1)) (i : Nat)) (hz zs (a + i)))
theorem wordsR_one (zs : List Int) (a q : Nat) : wordsR zs a q 1 = true := by simp [wordsR]
theorem wordsR_succ {zs : List Int} {a q k : Nat} (h : 1 ≤ k) : wordsR zs a q (k + 1) = (wordsR zs a q k && wordR zs (roleOf q (hz zs (a + 1)) (k : Nat)) (hz zs (a + k))) := by
  simp only [wordsR, List.range_succ, List.all_append, List.all_cons, List.all_nil, Bool.and_true]
  rw [show (k == 0) = false by simp; omega, Bool.false_or]
theorem wordsR_false {zs : List Int} {a q k n : Nat} (hk : k ≤ n) (h : wordsR zs a q k = false) : wordsR zs a q n = false := by
  cases hn : wordsR zs a q n with
  | false => rfl
  | true =>
    exfalso
    have : wordsR zs a q k = true := by
      unfold wordsR at hn ⊢
      rw [List.all_eq_true] at hn ⊢
      exact fun i hi => hn i (List.mem_range.2 (Nat.lt_of_lt_of_le (List.mem_range.1 hi) hk))
    rw [this] at h
    cases h
/-- The block is as its kind asks. -/
def blkR (zs : List Int) (a s q : Nat) : Bool := sizeR q (hz zs (a + 1)) s && wordsR zs a q s
theorem roleOf_nn {q : Nat} (hq : q ≤ 5) (n i : Int) : 0 ≤ roleOf q n i := by
  rcases (show q = 0 ∨ q = 1 ∨ q = 2 ∨ q = 3 ∨ q = 4 ∨ q = 5 by omega) with rfl | rfl | rfl | rfl | rfl | rfl
  all_goals (simp only [roleOf]; repeat' split)
  all_goals omega

set_option maxHeartbeats 8000000 in
set_option maxRecDepth 100000 in
theorem blockOk_ok (w : World) (lo ao : Option Addr) (lc cap : Nat) (zs : List Int) (a s q : Nat) (hLy : Ints w lo (lyt zs)) (hI : Ints w ao zs) (hl : zs.length ≤ 1048576) (hle : a + s ≤ zs.length) (hs : 2 ≤ s) (hq : q ≤ 5) :
    Calls Tryz.prog 146 #[.slice lo zs.length lc, .slice ao zs.length cap, bkV a s q] w fun e w' => e = .returned (.bool (blkR zs a s q)) ∧ Kept w w' := by
  have k0 : Kept w (w.alloc (.cells (bkC a s q) 74)) := Kept.alloc (Below.refl _ _) _
  have b0 := Cells.new w 74 (bkC a s q)
  obtain ⟨n, hn⟩ : ∃ n, hz zs (a + 1) = n := ⟨_, rfl⟩
  have hSh := shapeOf_ok _ ao cap zs a s q (hI.kept k0) hl hle hs hq
  rw [hn] at hSh
  go_enter Tryz.func146, Tryz.ntmps146
  go_wp2_with fail
  refine hSh.mono ?_
  rintro e w1 ⟨rfl, hk1⟩
  have c1 := (b0.kept hk1).cell 1
  cases hz : sizeR q n s with
  | false =>
    have HR : Hid (blkR zs a s q = false) := by simp [Hid, blkR, hn, hz]
    have hSz := sizeOk_ok w1 q n s hq (by omega) (by omega)
    rw [hz] at hSz
    clear hz hSh
    go_wp2_with (go_at_call 182; refine hSz.mono ?_; rintro e w2 ⟨rfl, hk2⟩)
    go_ret
    exact ⟨by rw [HR.out]; rfl, (k0.trans hk1).trans hk2⟩
  | true =>
    have HR : Hid (blkR zs a s q = wordsR zs a q s) := by simp [Hid, blkR, hn, hz]
    have hSz := sizeOk_ok w1 q n s hq (by omega) (by omega)
    rw [hz] at hSz
    clear hz hSh
    go_wp2_with fail
    refine hSz.mono ?_
    rintro e w2 ⟨rfl, hk2⟩
    have b2 := (b0.kept hk1).kept hk2
    have k2 := (k0.trans hk1).trans hk2
    have hLn := b2.lt
    clear c1 hSz b0 k0 hk1 hk2
    obtain ⟨bb, off, rfl, hc⟩ := hI.at (k := 0) (by omega)
    have hwd : ∀ k, k < s → w.cell? ⟨bb, off + (a + k), none⟩ = some (.int .i64 (hz zs (a + k))) := fun k hk => hc (a + k) (by omega)
    have hbb : bb < w.heap.size := World.block_lt_of_cell? _ _ (hwd 0 (by omega))
    have hbd := fun k => hI.bd (a + k)
    have HRN : Hid (∀ k : Nat, wordsR zs a q (k + 1) = (if k = 0 then true else (wordsR zs a q k && wordR zs (roleOf q n (k : Nat)) (hz zs (a + k))))) := by
      intro k
      by_cases h : k = 0
      · subst h; rw [if_pos rfl]; exact wordsR_one _ _ _
      · rw [if_neg h, wordsR_succ (by omega), hn]
    clear hc hI
    rcases (show q = 0 ∨ q = 1 ∨ q = 2 ∨ q = 3 ∨ q = 4 ∨ q = 5 by omega) with h | h | h | h | h | h
    · have hsh : shV q n = .iface 210 (.agg #[]) := by rw [h]; rfl
      rw [hsh]
      have HQ : Hid (q = 0) := h
      clear h hsh
      go_wp2_with fail
      go_loopw [8] (fun i wr => ∃ (k : Nat), i = .int .i64 k ∧ 1 ≤ k ∧ k ≤ s ∧ wordsR zs a q k = true ∧ Cells wr w.heap.size 74 (bkC a s q) ∧ Kept w wr) (fun i _ => s - (intOf i).toNat)
      case atStart => exact ⟨1, rfl, Nat.le_refl _, by omega, wordsR_one _ _ _, b2, k2⟩
      case round =>
        obtain ⟨k, rfl, hk1, hks, hok, hb, hK⟩ := hrel
        clear b2 k2
        have HO : Hid (wordsR zs a q k = true) := hok
        have HK : Hid (Kept w wr) := hK
        clear hok
        have cb1 := hb.cell 1
        by_cases hlt : k < s
        · obtain ⟨wd, hwdE⟩ : ∃ wd, wordR zs (roleOf 0 n (k : Nat)) (hz zs (a + k)) = wd := ⟨_, rfl⟩
          have HN : Hid (wordsR zs a q (k + 1) = wd) := by
            show _ = _
            rw [HRN.out k, if_neg (by omega), HO.out, HQ.out, hwdE, Bool.true_and]
          go_wp2_with fail
          go_cut [35] from 23 to 35 (fun t wx => t = .bool (!wd) ∧ Kept wr wx)
          case first =>
            have hbd1 := (hbd k).1
            have hbd2 := (hbd k).2
            have kd : Kept wr wr.drew := (Below.refl _ wr).drew
            have hcw : wr.drew.cell? ⟨bb, off + ((a : Int) + (k : Int)).toNat, none⟩ = some (.int .i64 (hz zs (a + k))) := by
              rw [show ((a : Int) + (k : Int)).toNat = a + k by omega]
              exact ((hK.trans kd).cell (p := ⟨bb, off + (a + k), none⟩) hbb).trans (hwd k hlt)
            have hb0 : wr.drew.cell? ⟨w.heap.size, 0, none⟩ = some (.int .i64 a) := (hb.kept kd).cell 0
            have hix : (a : Int) + (k : Int) < (zs.length : Int) := by omega
            have hix0 : (0 : Int) ≤ (a : Int) + (k : Int) := by omega
            have hixw : IntKind.i64.wrap ((a : Int) + (k : Int)) = (a : Int) + (k : Int) := IntWalk.i64_in _ ⟨by omega, by omega⟩
            have hLd := hLy.kept (hK.trans kd)
            have hW := fun (W : World) (hI : Ints W lo (lyt zs)) => wordOk_ok W lo lc zs (roleOf 0 n (k : Nat)) (hz zs (a + k)) hI hbd1 hbd2 (roleOf_nn (by omega) _ _)
            rw [hwdE] at hW
            clear hwdE hbd HN HRN
            go_region_held3 (fun w' => w'.cell? ⟨w.heap.size, 0, none⟩ = some (.int .i64 a) ∧ w'.cell? ⟨bb, off + ((a : Int) + (k : Int)).toNat, none⟩ = some (.int .i64 (hz zs (a + k)))) (first | (refine ⟨?_, ?_⟩ <;> assumption) | go_keep) (first | (go_at_call 225; refine (freeRole_ok n _ _).mono ?_; rintro e w4 ⟨rfl, hk4⟩; have hcw4 := (hk4.cell (p := ⟨bb, off + ((a : Int) + (k : Int)).toNat, none⟩) (World.block_lt_of_cell? _ _ hcw)).trans hcw; have hb4 := (hk4.cell (p := ⟨w.heap.size, 0, none⟩) (World.block_lt_of_cell? _ _ hb0)).trans hb0) | (go_at_call 183; refine (hW _ (hLd.kept hk4)).mono ?_; rintro e w5 ⟨rfl, rfl⟩))
            all_goals (
              go_wp2_with fail
              go_meet
              exact ⟨rfl, kd.trans hk4⟩)
          case rest =>
          obtain ⟨rfl, hKc⟩ := hcut
          have hbc := hb.kept hKc
          have hkc := hK.trans hKc
          clear hb hK cb1 hwdE
          cases wd with
          | true =>
            go_wp2_with fail
            go_roundw
            case rel => exact ⟨k + 1, by go_num, by omega, by omega, HN.out, hbc, hkc⟩
            case measure => simp [intOf]; omega
          | false =>
            go_wp2
            go_ret
            exact ⟨by rw [HR.out, wordsR_false (show k + 1 ≤ s by omega) HN.out]; rfl, hkc⟩
        · obtain rfl : s = k := by omega
          go_wp2
          go_ret
          exact ⟨by rw [HR.out, HO.out]; rfl, HK.out⟩
    · have hsh : shV q n = .iface 204 (.agg #[.int .i64 n]) := by rw [h]; rfl
      rw [hsh]
      have HQ : Hid (q = 1) := h
      clear h hsh
      go_wp2_with fail
      go_loopw [8] (fun i wr => ∃ (k : Nat), i = .int .i64 k ∧ 1 ≤ k ∧ k ≤ s ∧ wordsR zs a q k = true ∧ Cells wr w.heap.size 74 (bkC a s q) ∧ Kept w wr) (fun i _ => s - (intOf i).toNat)
      case atStart => exact ⟨1, rfl, Nat.le_refl _, by omega, wordsR_one _ _ _, b2, k2⟩
      case round =>
        obtain ⟨k, rfl, hk1, hks, hok, hb, hK⟩ := hrel
        clear b2 k2
        have HO : Hid (wordsR zs a q k = true) := hok
        have HK : Hid (Kept w wr) := hK
        clear hok
        have cb1 := hb.cell 1
        by_cases hlt : k < s
        · obtain ⟨wd, hwdE⟩ : ∃ wd, wordR zs (roleOf 1 n (k : Nat)) (hz zs (a + k)) = wd := ⟨_, rfl⟩
          have HN : Hid (wordsR zs a q (k + 1) = wd) := by
            show _ = _
            rw [HRN.out k, if_neg (by omega), HO.out, HQ.out, hwdE, Bool.true_and]
          go_wp2_with fail
          go_cut [35] from 23 to 35 (fun t wx => t = .bool (!wd) ∧ Kept wr wx)
          case first =>
            have hbd1 := (hbd k).1
            have hbd2 := (hbd k).2
            have kd : Kept wr wr.drew := (Below.refl _ wr).drew
            have hcw : wr.drew.cell? ⟨bb, off + ((a : Int) + (k : Int)).toNat, none⟩ = some (.int .i64 (hz zs (a + k))) := by
              rw [show ((a : Int) + (k : Int)).toNat = a + k by omega]
              exact ((hK.trans kd).cell (p := ⟨bb, off + (a + k), none⟩) hbb).trans (hwd k hlt)
            have hb0 : wr.drew.cell? ⟨w.heap.size, 0, none⟩ = some (.int .i64 a) := (hb.kept kd).cell 0
            have hix : (a : Int) + (k : Int) < (zs.length : Int) := by omega
            have hix0 : (0 : Int) ≤ (a : Int) + (k : Int) := by omega
            have hixw : IntKind.i64.wrap ((a : Int) + (k : Int)) = (a : Int) + (k : Int) := IntWalk.i64_in _ ⟨by omega, by omega⟩
            have hLd := hLy.kept (hK.trans kd)
            have hW := fun (W : World) (hI : Ints W lo (lyt zs)) => wordOk_ok W lo lc zs (roleOf 1 n (k : Nat)) (hz zs (a + k)) hI hbd1 hbd2 (roleOf_nn (by omega) _ _)
            rw [hwdE] at hW
            clear hwdE hbd HN HRN
            go_region_held3 (fun w' => w'.cell? ⟨w.heap.size, 0, none⟩ = some (.int .i64 a) ∧ w'.cell? ⟨bb, off + ((a : Int) + (k : Int)).toNat, none⟩ = some (.int .i64 (hz zs (a + k)))) (first | (refine ⟨?_, ?_⟩ <;> assumption) | go_keep) (first | (go_at_call 220; refine (textRole_ok n _ _ (by omega) (by omega)).mono ?_; rintro e w4 ⟨rfl, hk4⟩; have hcw4 := (hk4.cell (p := ⟨bb, off + ((a : Int) + (k : Int)).toNat, none⟩) (World.block_lt_of_cell? _ _ hcw)).trans hcw; have hb4 := (hk4.cell (p := ⟨w.heap.size, 0, none⟩) (World.block_lt_of_cell? _ _ hb0)).trans hb0) | (go_at_call 183; refine (hW _ (hLd.kept hk4)).mono ?_; rintro e w5 ⟨rfl, rfl⟩))
            all_goals (
              go_wp2_with fail
              go_meet
              exact ⟨rfl, kd.trans hk4⟩)
          case rest =>
          obtain ⟨rfl, hKc⟩ := hcut
          have hbc := hb.kept hKc
          have hkc := hK.trans hKc
          clear hb hK cb1 hwdE
          cases wd with
          | true =>
            go_wp2_with fail
            go_roundw
            case rel => exact ⟨k + 1, by go_num, by omega, by omega, HN.out, hbc, hkc⟩
            case measure => simp [intOf]; omega
          | false =>
            go_wp2
            go_ret
            exact ⟨by rw [HR.out, wordsR_false (show k + 1 ≤ s by omega) HN.out]; rfl, hkc⟩
        · obtain rfl : s = k := by omega
          go_wp2
          go_ret
          exact ⟨by rw [HR.out, HO.out]; rfl, HK.out⟩
    · have hsh : shV q n = .iface 206 (.agg #[]) := by rw [h]; rfl
      rw [hsh]
      have HQ : Hid (q = 2) := h
      clear h hsh
      go_wp2_with fail
      go_loopw [8] (fun i wr => ∃ (k : Nat), i = .int .i64 k ∧ 1 ≤ k ∧ k ≤ s ∧ wordsR zs a q k = true ∧ Cells wr w.heap.size 74 (bkC a s q) ∧ Kept w wr) (fun i _ => s - (intOf i).toNat)
      case atStart => exact ⟨1, rfl, Nat.le_refl _, by omega, wordsR_one _ _ _, b2, k2⟩
      case round =>
        obtain ⟨k, rfl, hk1, hks, hok, hb, hK⟩ := hrel
        clear b2 k2
        have HO : Hid (wordsR zs a q k = true) := hok
        have HK : Hid (Kept w wr) := hK
        clear hok
        have cb1 := hb.cell 1
        by_cases hlt : k < s
        · obtain ⟨wd, hwdE⟩ : ∃ wd, wordR zs (roleOf 2 n (k : Nat)) (hz zs (a + k)) = wd := ⟨_, rfl⟩
          have HN : Hid (wordsR zs a q (k + 1) = wd) := by
            show _ = _
            rw [HRN.out k, if_neg (by omega), HO.out, HQ.out, hwdE, Bool.true_and]
          go_wp2_with fail
          go_cut [35] from 23 to 35 (fun t wx => t = .bool (!wd) ∧ Kept wr wx)
          case first =>
            have hbd1 := (hbd k).1
            have hbd2 := (hbd k).2
            have kd : Kept wr wr.drew := (Below.refl _ wr).drew
            have hcw : wr.drew.cell? ⟨bb, off + ((a : Int) + (k : Int)).toNat, none⟩ = some (.int .i64 (hz zs (a + k))) := by
              rw [show ((a : Int) + (k : Int)).toNat = a + k by omega]
              exact ((hK.trans kd).cell (p := ⟨bb, off + (a + k), none⟩) hbb).trans (hwd k hlt)
            have hb0 : wr.drew.cell? ⟨w.heap.size, 0, none⟩ = some (.int .i64 a) := (hb.kept kd).cell 0
            have hix : (a : Int) + (k : Int) < (zs.length : Int) := by omega
            have hix0 : (0 : Int) ≤ (a : Int) + (k : Int) := by omega
            have hixw : IntKind.i64.wrap ((a : Int) + (k : Int)) = (a : Int) + (k : Int) := IntWalk.i64_in _ ⟨by omega, by omega⟩
            have hLd := hLy.kept (hK.trans kd)
            have hW := fun (W : World) (hI : Ints W lo (lyt zs)) => wordOk_ok W lo lc zs (roleOf 2 n (k : Nat)) (hz zs (a + k)) hI hbd1 hbd2 (roleOf_nn (by omega) _ _)
            rw [hwdE] at hW
            clear hwdE hbd HN HRN
            go_region_held3 (fun w' => w'.cell? ⟨w.heap.size, 0, none⟩ = some (.int .i64 a) ∧ w'.cell? ⟨bb, off + ((a : Int) + (k : Int)).toNat, none⟩ = some (.int .i64 (hz zs (a + k)))) (first | (refine ⟨?_, ?_⟩ <;> assumption) | go_keep) (first | (go_at_call 221; refine (objRole_ok n _ _).mono ?_; rintro e w4 ⟨rfl, hk4⟩; have hcw4 := (hk4.cell (p := ⟨bb, off + ((a : Int) + (k : Int)).toNat, none⟩) (World.block_lt_of_cell? _ _ hcw)).trans hcw; have hb4 := (hk4.cell (p := ⟨w.heap.size, 0, none⟩) (World.block_lt_of_cell? _ _ hb0)).trans hb0) | (go_at_call 183; refine (hW _ (hLd.kept hk4)).mono ?_; rintro e w5 ⟨rfl, rfl⟩))
            all_goals (
              go_wp2_with fail
              go_meet
              exact ⟨rfl, kd.trans hk4⟩)
          case rest =>
          obtain ⟨rfl, hKc⟩ := hcut
          have hbc := hb.kept hKc
          have hkc := hK.trans hKc
          clear hb hK cb1 hwdE
          cases wd with
          | true =>
            go_wp2_with fail
            go_roundw
            case rel => exact ⟨k + 1, by go_num, by omega, by omega, HN.out, hbc, hkc⟩
            case measure => simp [intOf]; omega
          | false =>
            go_wp2
            go_ret
            exact ⟨by rw [HR.out, wordsR_false (show k + 1 ≤ s by omega) HN.out]; rfl, hkc⟩
        · obtain rfl : s = k := by omega
          go_wp2
          go_ret
          exact ⟨by rw [HR.out, HO.out]; rfl, HK.out⟩
    · have hsh : shV q n = .iface 207 (.agg #[]) := by rw [h]; rfl
      rw [hsh]
      have HQ : Hid (q = 3) := h
      clear h hsh
      go_wp2_with fail
      go_loopw [8] (fun i wr => ∃ (k : Nat), i = .int .i64 k ∧ 1 ≤ k ∧ k ≤ s ∧ wordsR zs a q k = true ∧ Cells wr w.heap.size 74 (bkC a s q) ∧ Kept w wr) (fun i _ => s - (intOf i).toNat)
      case atStart => exact ⟨1, rfl, Nat.le_refl _, by omega, wordsR_one _ _ _, b2, k2⟩
      case round =>
        obtain ⟨k, rfl, hk1, hks, hok, hb, hK⟩ := hrel
        clear b2 k2
        have HO : Hid (wordsR zs a q k = true) := hok
        have HK : Hid (Kept w wr) := hK
        clear hok
        have cb1 := hb.cell 1
        by_cases hlt : k < s
        · obtain ⟨wd, hwdE⟩ : ∃ wd, wordR zs (roleOf 3 n (k : Nat)) (hz zs (a + k)) = wd := ⟨_, rfl⟩
          have HN : Hid (wordsR zs a q (k + 1) = wd) := by
            show _ = _
            rw [HRN.out k, if_neg (by omega), HO.out, HQ.out, hwdE, Bool.true_and]
          go_wp2_with fail
          go_cut [35] from 23 to 35 (fun t wx => t = .bool (!wd) ∧ Kept wr wx)
          case first =>
            have hbd1 := (hbd k).1
            have hbd2 := (hbd k).2
            have kd : Kept wr wr.drew := (Below.refl _ wr).drew
            have hcw : wr.drew.cell? ⟨bb, off + ((a : Int) + (k : Int)).toNat, none⟩ = some (.int .i64 (hz zs (a + k))) := by
              rw [show ((a : Int) + (k : Int)).toNat = a + k by omega]
              exact ((hK.trans kd).cell (p := ⟨bb, off + (a + k), none⟩) hbb).trans (hwd k hlt)
            have hb0 : wr.drew.cell? ⟨w.heap.size, 0, none⟩ = some (.int .i64 a) := (hb.kept kd).cell 0
            have hix : (a : Int) + (k : Int) < (zs.length : Int) := by omega
            have hix0 : (0 : Int) ≤ (a : Int) + (k : Int) := by omega
            have hixw : IntKind.i64.wrap ((a : Int) + (k : Int)) = (a : Int) + (k : Int) := IntWalk.i64_in _ ⟨by omega, by omega⟩
            have hLd := hLy.kept (hK.trans kd)
            have hW := fun (W : World) (hI : Ints W lo (lyt zs)) => wordOk_ok W lo lc zs (roleOf 3 n (k : Nat)) (hz zs (a + k)) hI hbd1 hbd2 (roleOf_nn (by omega) _ _)
            rw [hwdE] at hW
            clear hwdE hbd HN HRN
            go_region_held3 (fun w' => w'.cell? ⟨w.heap.size, 0, none⟩ = some (.int .i64 a) ∧ w'.cell? ⟨bb, off + ((a : Int) + (k : Int)).toNat, none⟩ = some (.int .i64 (hz zs (a + k)))) (first | (refine ⟨?_, ?_⟩ <;> assumption) | go_keep) (first | (go_at_call 222; refine (cellRole_ok n _ _).mono ?_; rintro e w4 ⟨rfl, hk4⟩; have hcw4 := (hk4.cell (p := ⟨bb, off + ((a : Int) + (k : Int)).toNat, none⟩) (World.block_lt_of_cell? _ _ hcw)).trans hcw; have hb4 := (hk4.cell (p := ⟨w.heap.size, 0, none⟩) (World.block_lt_of_cell? _ _ hb0)).trans hb0) | (go_at_call 183; refine (hW _ (hLd.kept hk4)).mono ?_; rintro e w5 ⟨rfl, rfl⟩))
            all_goals (
              go_wp2_with fail
              go_meet
              exact ⟨rfl, kd.trans hk4⟩)
          case rest =>
          obtain ⟨rfl, hKc⟩ := hcut
          have hbc := hb.kept hKc
          have hkc := hK.trans hKc
          clear hb hK cb1 hwdE
          cases wd with
          | true =>
            go_wp2_with fail
            go_roundw
            case rel => exact ⟨k + 1, by go_num, by omega, by omega, HN.out, hbc, hkc⟩
            case measure => simp [intOf]; omega
          | false =>
            go_wp2
            go_ret
            exact ⟨by rw [HR.out, wordsR_false (show k + 1 ≤ s by omega) HN.out]; rfl, hkc⟩
        · obtain rfl : s = k := by omega
          go_wp2
          go_ret
          exact ⟨by rw [HR.out, HO.out]; rfl, HK.out⟩
    · have hsh : shV q n = .iface 208 (.agg #[]) := by rw [h]; rfl
      rw [hsh]
      have HQ : Hid (q = 4) := h
      clear h hsh
      go_wp2_with fail
      go_loopw [8] (fun i wr => ∃ (k : Nat), i = .int .i64 k ∧ 1 ≤ k ∧ k ≤ s ∧ wordsR zs a q k = true ∧ Cells wr w.heap.size 74 (bkC a s q) ∧ Kept w wr) (fun i _ => s - (intOf i).toNat)
      case atStart => exact ⟨1, rfl, Nat.le_refl _, by omega, wordsR_one _ _ _, b2, k2⟩
      case round =>
        obtain ⟨k, rfl, hk1, hks, hok, hb, hK⟩ := hrel
        clear b2 k2
        have HO : Hid (wordsR zs a q k = true) := hok
        have HK : Hid (Kept w wr) := hK
        clear hok
        have cb1 := hb.cell 1
        by_cases hlt : k < s
        · obtain ⟨wd, hwdE⟩ : ∃ wd, wordR zs (roleOf 4 n (k : Nat)) (hz zs (a + k)) = wd := ⟨_, rfl⟩
          have HN : Hid (wordsR zs a q (k + 1) = wd) := by
            show _ = _
            rw [HRN.out k, if_neg (by omega), HO.out, HQ.out, hwdE, Bool.true_and]
          go_wp2_with fail
          go_cut [35] from 23 to 35 (fun t wx => t = .bool (!wd) ∧ Kept wr wx)
          case first =>
            have hbd1 := (hbd k).1
            have hbd2 := (hbd k).2
            have kd : Kept wr wr.drew := (Below.refl _ wr).drew
            have hcw : wr.drew.cell? ⟨bb, off + ((a : Int) + (k : Int)).toNat, none⟩ = some (.int .i64 (hz zs (a + k))) := by
              rw [show ((a : Int) + (k : Int)).toNat = a + k by omega]
              exact ((hK.trans kd).cell (p := ⟨bb, off + (a + k), none⟩) hbb).trans (hwd k hlt)
            have hb0 : wr.drew.cell? ⟨w.heap.size, 0, none⟩ = some (.int .i64 a) := (hb.kept kd).cell 0
            have hix : (a : Int) + (k : Int) < (zs.length : Int) := by omega
            have hix0 : (0 : Int) ≤ (a : Int) + (k : Int) := by omega
            have hixw : IntKind.i64.wrap ((a : Int) + (k : Int)) = (a : Int) + (k : Int) := IntWalk.i64_in _ ⟨by omega, by omega⟩
            have hLd := hLy.kept (hK.trans kd)
            have hW := fun (W : World) (hI : Ints W lo (lyt zs)) => wordOk_ok W lo lc zs (roleOf 4 n (k : Nat)) (hz zs (a + k)) hI hbd1 hbd2 (roleOf_nn (by omega) _ _)
            rw [hwdE] at hW
            clear hwdE hbd HN HRN
            go_region_held3 (fun w' => w'.cell? ⟨w.heap.size, 0, none⟩ = some (.int .i64 a) ∧ w'.cell? ⟨bb, off + ((a : Int) + (k : Int)).toNat, none⟩ = some (.int .i64 (hz zs (a + k)))) (first | (refine ⟨?_, ?_⟩ <;> assumption) | go_keep) (first | (go_at_call 223; refine (funRole_ok n _ _).mono ?_; rintro e w4 ⟨rfl, hk4⟩; have hcw4 := (hk4.cell (p := ⟨bb, off + ((a : Int) + (k : Int)).toNat, none⟩) (World.block_lt_of_cell? _ _ hcw)).trans hcw; have hb4 := (hk4.cell (p := ⟨w.heap.size, 0, none⟩) (World.block_lt_of_cell? _ _ hb0)).trans hb0) | (go_at_call 183; refine (hW _ (hLd.kept hk4)).mono ?_; rintro e w5 ⟨rfl, rfl⟩))
            all_goals (
              go_wp2_with fail
              go_meet
              exact ⟨rfl, kd.trans hk4⟩)
          case rest =>
          obtain ⟨rfl, hKc⟩ := hcut
          have hbc := hb.kept hKc
          have hkc := hK.trans hKc
          clear hb hK cb1 hwdE
          cases wd with
          | true =>
            go_wp2_with fail
            go_roundw
            case rel => exact ⟨k + 1, by go_num, by omega, by omega, HN.out, hbc, hkc⟩
            case measure => simp [intOf]; omega
          | false =>
            go_wp2
            go_ret
            exact ⟨by rw [HR.out, wordsR_false (show k + 1 ≤ s by omega) HN.out]; rfl, hkc⟩
        · obtain rfl : s = k := by omega
          go_wp2
          go_ret
          exact ⟨by rw [HR.out, HO.out]; rfl, HK.out⟩
    · have hsh : shV q n = .iface 209 (.agg #[]) := by rw [h]; rfl
      rw [hsh]
      have HQ : Hid (q = 5) := h
      clear h hsh
      go_wp2_with fail
      go_loopw [8] (fun i wr => ∃ (k : Nat), i = .int .i64 k ∧ 1 ≤ k ∧ k ≤ s ∧ wordsR zs a q k = true ∧ Cells wr w.heap.size 74 (bkC a s q) ∧ Kept w wr) (fun i _ => s - (intOf i).toNat)
      case atStart => exact ⟨1, rfl, Nat.le_refl _, by omega, wordsR_one _ _ _, b2, k2⟩
      case round =>
        obtain ⟨k, rfl, hk1, hks, hok, hb, hK⟩ := hrel
        clear b2 k2
        have HO : Hid (wordsR zs a q k = true) := hok
        have HK : Hid (Kept w wr) := hK
        clear hok
        have cb1 := hb.cell 1
        by_cases hlt : k < s
        · obtain ⟨wd, hwdE⟩ : ∃ wd, wordR zs (roleOf 5 n (k : Nat)) (hz zs (a + k)) = wd := ⟨_, rfl⟩
          have HN : Hid (wordsR zs a q (k + 1) = wd) := by
            show _ = _
            rw [HRN.out k, if_neg (by omega), HO.out, HQ.out, hwdE, Bool.true_and]
          go_wp2_with fail
          go_cut [35] from 23 to 35 (fun t wx => t = .bool (!wd) ∧ Kept wr wx)
          case first =>
            have hbd1 := (hbd k).1
            have hbd2 := (hbd k).2
            have kd : Kept wr wr.drew := (Below.refl _ wr).drew
            have hcw : wr.drew.cell? ⟨bb, off + ((a : Int) + (k : Int)).toNat, none⟩ = some (.int .i64 (hz zs (a + k))) := by
              rw [show ((a : Int) + (k : Int)).toNat = a + k by omega]
              exact ((hK.trans kd).cell (p := ⟨bb, off + (a + k), none⟩) hbb).trans (hwd k hlt)
            have hb0 : wr.drew.cell? ⟨w.heap.size, 0, none⟩ = some (.int .i64 a) := (hb.kept kd).cell 0
            have hix : (a : Int) + (k : Int) < (zs.length : Int) := by omega
            have hix0 : (0 : Int) ≤ (a : Int) + (k : Int) := by omega
            have hixw : IntKind.i64.wrap ((a : Int) + (k : Int)) = (a : Int) + (k : Int) := IntWalk.i64_in _ ⟨by omega, by omega⟩
            have hLd := hLy.kept (hK.trans kd)
            have hW := fun (W : World) (hI : Ints W lo (lyt zs)) => wordOk_ok W lo lc zs (roleOf 5 n (k : Nat)) (hz zs (a + k)) hI hbd1 hbd2 (roleOf_nn (by omega) _ _)
            rw [hwdE] at hW
            clear hwdE hbd HN HRN
            go_region_held3 (fun w' => w'.cell? ⟨w.heap.size, 0, none⟩ = some (.int .i64 a) ∧ w'.cell? ⟨bb, off + ((a : Int) + (k : Int)).toNat, none⟩ = some (.int .i64 (hz zs (a + k)))) (first | (refine ⟨?_, ?_⟩ <;> assumption) | go_keep) (first | (go_at_call 224; refine (scopeRole_ok n _ _).mono ?_; rintro e w4 ⟨rfl, hk4⟩; have hcw4 := (hk4.cell (p := ⟨bb, off + ((a : Int) + (k : Int)).toNat, none⟩) (World.block_lt_of_cell? _ _ hcw)).trans hcw; have hb4 := (hk4.cell (p := ⟨w.heap.size, 0, none⟩) (World.block_lt_of_cell? _ _ hb0)).trans hb0) | (go_at_call 183; refine (hW _ (hLd.kept hk4)).mono ?_; rintro e w5 ⟨rfl, rfl⟩))
            all_goals (
              go_wp2_with fail
              go_meet
              exact ⟨rfl, kd.trans hk4⟩)
          case rest =>
          obtain ⟨rfl, hKc⟩ := hcut
          have hbc := hb.kept hKc
          have hkc := hK.trans hKc
          clear hb hK cb1 hwdE
          cases wd with
          | true =>
            go_wp2_with fail
            go_roundw
            case rel => exact ⟨k + 1, by go_num, by omega, by omega, HN.out, hbc, hkc⟩
            case measure => simp [intOf]; omega
          | false =>
            go_wp2
            go_ret
            exact ⟨by rw [HR.out, wordsR_false (show k + 1 ≤ s by omega) HN.out]; rfl, hkc⟩
        · obtain rfl : s = k := by omega
          go_wp2
          go_ret
          exact ⟨by rw [HR.out, HO.out]; rfl, HK.out⟩
end Go.Proofs.YtgempjjnfpmndaaGreatDoor
