/-
  The contracts of chapter 3's functions of the program that hold a word against its role, and a block against its shape's size.
-/
import Derived.Test.YtpbafjcoomfooaaGreatShapeC
namespace Go.Proofs.YtpbafjcoomfooaaGreat
open Go.RowKit
attribute [local go_sem] Plain.and7

set_option maxHeartbeats 4000000 in
theorem valueOk_ok (w : World) (lo : Option Addr) (lc : Nat) (zs : List Int) (r v : Int) (hI : Ints w lo (lyt zs)) (h0 : -9223372036854775808 ≤ v) (h1 : v ≤ 9223372036854775807) :
    Calls Tryz.prog 48 #[.slice lo zs.length lc, .int .i64 r, .int .i64 v] w fun e w' => e = .returned (.bool (valR zs r v)) ∧ w = w' := by
  have hk0 : 0 ≤ v % 8 := by omega
  have hk7 : v % 8 ≤ 7 := by omega
  have hV := value_ok_ok v w h0 h1
  have hT := takes_ok r (v % 8) w hk0 hk7
  have hL := leads_ok (v % 8) w hk7
  have hK := lkindAt_ok w lo lc zs (v / 8) hI
  cases hv : vOk v with
  | false =>
    have HR : Hid (valR zs r v = false) := by simp [Hid, valR, hv]
    rw [hv] at hV
    clear hv hT hL hK hI
    go_enter Tryz.func48, Tryz.ntmps48
    go_wp2_with (first | (go_at_call 100; refine hV.mono ?_; rintro e wx ⟨rfl, rfl⟩))
    go_ret
    exact ⟨by rw [HR.out]; rfl, rfl⟩
  | true =>
    rw [hv] at hV
    cases ht : takesR r (v % 8) with
    | false =>
      have HR : Hid (valR zs r v = false) := by simp [Hid, valR, ht]
      rw [ht] at hT
      clear hv ht hL hK hI
      go_enter Tryz.func48, Tryz.ntmps48
      go_wp2_with (first | (go_at_call 100; refine hV.mono ?_; rintro e wx ⟨rfl, rfl⟩) | (go_at_call 102; refine (impl_value_kind_ok _ _).mono ?_; rintro e wx ⟨rfl, rfl⟩) | (go_at_call 101; refine hT.mono ?_; rintro e wx ⟨rfl, rfl⟩))
      go_ret
      exact ⟨by rw [HR.out]; rfl, rfl⟩
    | true =>
      rw [ht] at hT
      by_cases h4 : 4 ≤ v % 8
      · have HR : Hid (valR zs r v = decide (kindAt zs (v / 8) = goalR r (v % 8))) := by simp [Hid, valR, hv, ht, h4]
        have hG := goal_ok r (v % 8) w h4 hk7
        have hd : decide (4 ≤ v % 8) = true := by simpa using h4
        rw [hd] at hL
        clear hv ht hI hd
        go_enter Tryz.func48, Tryz.ntmps48
        go_wp2_with (first | (go_at_call 100; refine hV.mono ?_; rintro e wx ⟨rfl, rfl⟩) | (go_at_call 102; refine (impl_value_kind_ok _ _).mono ?_; rintro e wx ⟨rfl, rfl⟩) | (go_at_call 101; refine hT.mono ?_; rintro e wx ⟨rfl, rfl⟩) | (go_at_call 79; refine hL.mono ?_; rintro e wx ⟨rfl, rfl⟩) | (go_at_call 73; refine (impl_value_num_ok _ _ h0 h1).mono ?_; rintro e wx ⟨rfl, rfl⟩) | (go_at_call 103; refine hK.mono ?_; rintro e wx ⟨rfl, rfl⟩) | (go_at_call 104; refine hG.mono ?_; rintro e wx ⟨rfl, rfl⟩))
        go_ret
        exact ⟨by rw [HR.out]; rfl, rfl⟩
      · have HR : Hid (valR zs r v = true) := by simp [Hid, valR, hv, ht, h4]
        have hd : decide (4 ≤ v % 8) = false := by simpa using h4
        rw [hd] at hL
        clear hv ht hI hd hK
        go_enter Tryz.func48, Tryz.ntmps48
        go_wp2_with (first | (go_at_call 100; refine hV.mono ?_; rintro e wx ⟨rfl, rfl⟩) | (go_at_call 102; refine (impl_value_kind_ok _ _).mono ?_; rintro e wx ⟨rfl, rfl⟩) | (go_at_call 101; refine hT.mono ?_; rintro e wx ⟨rfl, rfl⟩) | (go_at_call 79; refine hL.mono ?_; rintro e wx ⟨rfl, rfl⟩))
        go_ret
        exact ⟨by rw [HR.out]; rfl, rfl⟩
set_option maxHeartbeats 4000000 in
theorem wordOk_ok (w : World) (lo : Option Addr) (lc : Nat) (zs : List Int) (r v : Int) (hI : Ints w lo (lyt zs)) (h0 : -9223372036854775808 ≤ v) (h1 : v ≤ 9223372036854775807) (hr : 0 ≤ r) :
    Calls Tryz.prog 142 #[.slice lo zs.length lc, .int .i64 r, .int .i64 v] w fun e w' => e = .returned (.bool (wordR zs r v)) ∧ w = w' := by
  by_cases h5 : 5 ≤ r
  · have hV := valueOk_ok w lo lc zs r v hI h0 h1
    have HR : Hid (wordR zs r v = valR zs r v) := by
      show _ = _
      unfold wordR
      rw [if_neg (by omega), if_neg (by omega), if_neg (by omega), if_neg (by omega), if_neg (by omega)]
    have e0 : (r == 0) = false := by simp; omega
    have e1 : (r == 1) = false := by simp; omega
    have e2 : (r == 2) = false := by simp; omega
    have e3 : (r == 3) = false := by simp; omega
    have e4 : (r == 4) = false := by simp; omega
    clear hI
    go_enter Tryz.func142, Tryz.ntmps142
    go_wp2_with (go_at_call 48; refine hV.mono ?_; rintro e wx ⟨rfl, rfl⟩)
    go_ret
    exact ⟨by rw [HR.out]; rfl, rfl⟩
  · clear hI
    rcases (show r = 0 ∨ r = 1 ∨ r = 2 ∨ r = 3 ∨ r = 4 by omega) with rfl | rfl | rfl | rfl | rfl
    · go_enter Tryz.func142, Tryz.ntmps142
      go_wp2
      go_ret
      exact ⟨rfl, rfl⟩
    · go_enter Tryz.func142, Tryz.ntmps142
      go_wp2
      go_ret
      exact ⟨rfl, rfl⟩
    · go_enter Tryz.func142, Tryz.ntmps142
      go_wp2
      go_ret
      exact ⟨rfl, rfl⟩
    · by_cases hv : 0 ≤ v
      · have HR : Hid (wordR zs 3 v = decide (v ≤ 255)) := by simp [Hid, wordR, hv]
        go_enter Tryz.func142, Tryz.ntmps142
        go_wp2
        go_ret
        exact ⟨by rw [HR.out]; rfl, rfl⟩
      · have HR : Hid (wordR zs 3 v = false) := by simp [Hid, wordR, hv]
        go_enter Tryz.func142, Tryz.ntmps142
        go_wp2
        go_ret
        exact ⟨by rw [HR.out]; rfl, rfl⟩
    · by_cases hv : 0 ≤ v
      · have HR : Hid (wordR zs 4 v = decide (v ≤ 99)) := by simp [Hid, wordR, hv]
        go_enter Tryz.func142, Tryz.ntmps142
        go_wp2
        go_ret
        exact ⟨by rw [HR.out]; rfl, rfl⟩
      · have HR : Hid (wordR zs 4 v = false) := by simp [Hid, wordR, hv]
        go_enter Tryz.func142, Tryz.ntmps142
        go_wp2
        go_ret
        exact ⟨by rw [HR.out]; rfl, rfl⟩
theorem ta_text_text (v : Value) (w : World) : Sem.run Tryz.prog (Instr.typeAssert (.iface 144 v) 133 144 true) w = .ok (.tuple #[v, .bool true]) w := by kernel_rfl
theorem ta_obj_text (v : Value) (w : World) : Sem.run Tryz.prog (Instr.typeAssert (.iface 146 v) 133 144 true) w = .ok (.tuple #[.agg #[.int .i64 0], .bool false]) w := by kernel_rfl
theorem ta_obj_obj (v : Value) (w : World) : Sem.run Tryz.prog (Instr.typeAssert (.iface 146 v) 133 146 true) w = .ok (.tuple #[v, .bool true]) w := by kernel_rfl
theorem ta_cell_text (v : Value) (w : World) : Sem.run Tryz.prog (Instr.typeAssert (.iface 147 v) 133 144 true) w = .ok (.tuple #[.agg #[.int .i64 0], .bool false]) w := by kernel_rfl
theorem ta_cell_obj (v : Value) (w : World) : Sem.run Tryz.prog (Instr.typeAssert (.iface 147 v) 133 146 true) w = .ok (.tuple #[.agg #[], .bool false]) w := by kernel_rfl
theorem ta_cell_cell (v : Value) (w : World) : Sem.run Tryz.prog (Instr.typeAssert (.iface 147 v) 133 147 true) w = .ok (.tuple #[v, .bool true]) w := by kernel_rfl
theorem ta_fun_text (v : Value) (w : World) : Sem.run Tryz.prog (Instr.typeAssert (.iface 148 v) 133 144 true) w = .ok (.tuple #[.agg #[.int .i64 0], .bool false]) w := by kernel_rfl
theorem ta_fun_obj (v : Value) (w : World) : Sem.run Tryz.prog (Instr.typeAssert (.iface 148 v) 133 146 true) w = .ok (.tuple #[.agg #[], .bool false]) w := by kernel_rfl
theorem ta_fun_cell (v : Value) (w : World) : Sem.run Tryz.prog (Instr.typeAssert (.iface 148 v) 133 147 true) w = .ok (.tuple #[.agg #[], .bool false]) w := by kernel_rfl
theorem ta_fun_fun (v : Value) (w : World) : Sem.run Tryz.prog (Instr.typeAssert (.iface 148 v) 133 148 true) w = .ok (.tuple #[v, .bool true]) w := by kernel_rfl
theorem ta_scope_text (v : Value) (w : World) : Sem.run Tryz.prog (Instr.typeAssert (.iface 149 v) 133 144 true) w = .ok (.tuple #[.agg #[.int .i64 0], .bool false]) w := by kernel_rfl
theorem ta_scope_obj (v : Value) (w : World) : Sem.run Tryz.prog (Instr.typeAssert (.iface 149 v) 133 146 true) w = .ok (.tuple #[.agg #[], .bool false]) w := by kernel_rfl
theorem ta_scope_cell (v : Value) (w : World) : Sem.run Tryz.prog (Instr.typeAssert (.iface 149 v) 133 147 true) w = .ok (.tuple #[.agg #[], .bool false]) w := by kernel_rfl
theorem ta_scope_fun (v : Value) (w : World) : Sem.run Tryz.prog (Instr.typeAssert (.iface 149 v) 133 148 true) w = .ok (.tuple #[.agg #[], .bool false]) w := by kernel_rfl
theorem ta_free_text (v : Value) (w : World) : Sem.run Tryz.prog (Instr.typeAssert (.iface 150 v) 133 144 true) w = .ok (.tuple #[.agg #[.int .i64 0], .bool false]) w := by kernel_rfl
theorem ta_free_obj (v : Value) (w : World) : Sem.run Tryz.prog (Instr.typeAssert (.iface 150 v) 133 146 true) w = .ok (.tuple #[.agg #[], .bool false]) w := by kernel_rfl
theorem ta_free_cell (v : Value) (w : World) : Sem.run Tryz.prog (Instr.typeAssert (.iface 150 v) 133 147 true) w = .ok (.tuple #[.agg #[], .bool false]) w := by kernel_rfl
theorem ta_free_fun (v : Value) (w : World) : Sem.run Tryz.prog (Instr.typeAssert (.iface 150 v) 133 148 true) w = .ok (.tuple #[.agg #[], .bool false]) w := by kernel_rfl
attribute [local go_sem] ta_text_text ta_obj_text ta_obj_obj ta_cell_text ta_cell_obj ta_cell_cell ta_fun_text ta_fun_obj ta_fun_cell ta_fun_fun ta_scope_text ta_scope_obj ta_scope_cell ta_scope_fun ta_free_text ta_free_obj ta_free_cell ta_free_fun
set_option maxHeartbeats 4000000 in
set_option maxRecDepth 100000 in
theorem sizeOk_ok (w : World) (q : Nat) (n s : Int) (hq : q ≤ 5) (h2 : 2 ≤ s) (hs : s ≤ 1048576) :
    Calls Tryz.prog 141 #[shV q n, .int .i64 s] w fun e w' => e = .returned (.bool (sizeR q n s)) ∧ Kept w w' := by
  rcases (show q = 1 ∨ q = 2 ∨ q = 3 ∨ q = 4 ∨ q = 0 ∨ q = 5 by omega) with rfl | rfl | rfl | rfl | rfl | rfl
  · by_cases hn : 0 ≤ n
    · have HR : Hid (sizeR 1 n s = decide (n ≤ s - 2)) := by simp [Hid, sizeR, hn]
      simp only [shV]
      go_enter Tryz.func141, Tryz.ntmps141
      go_wp2
      go_ret
      exact ⟨by rw [HR.out]; rfl, Kept.alloc (Below.refl _ _) _⟩
    · have HR : Hid (sizeR 1 n s = false) := by simp [Hid, sizeR, hn]
      simp only [shV]
      go_enter Tryz.func141, Tryz.ntmps141
      go_wp2
      go_ret
      exact ⟨by rw [HR.out]; rfl, Kept.alloc (Below.refl _ _) _⟩
  · simp only [shV]
    go_enter Tryz.func141, Tryz.ntmps141
    go_wp2_with (go_at_call 155; refine (oneMore_ok _ _ _ (by omega) (by omega)).mono ?_; rintro e wx ⟨rfl, rfl⟩)
    go_ret
    exact ⟨by simp [sizeR], Kept.alloc (Below.refl _ _) _⟩
  · simp only [shV]
    go_enter Tryz.func141, Tryz.ntmps141
    go_wp2_with (go_at_call 155; refine (oneMore_ok _ _ _ (by omega) (by omega)).mono ?_; rintro e wx ⟨rfl, rfl⟩)
    go_ret
    exact ⟨by simp [sizeR], Kept.alloc (Below.refl _ _) _⟩
  · simp only [shV]
    go_enter Tryz.func141, Tryz.ntmps141
    go_wp2_with (go_at_call 155; refine (oneMore_ok _ _ _ (by omega) (by omega)).mono ?_; rintro e wx ⟨rfl, rfl⟩)
    go_ret
    exact ⟨by simp [sizeR], Kept.alloc (Below.refl _ _) _⟩
  all_goals (
    simp only [shV]
    go_enter Tryz.func141, Tryz.ntmps141
    go_wp2
    go_ret
    exact ⟨rfl, Below.refl _ _⟩)
end Go.Proofs.YtpbafjcoomfooaaGreat
