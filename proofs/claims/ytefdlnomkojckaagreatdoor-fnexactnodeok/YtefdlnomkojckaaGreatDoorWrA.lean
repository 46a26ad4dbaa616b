/-
  The contracts of chapter 13's writers: whether S and N are what an op has; how many kids, and where they stand (genWr.py).
-/
import Derived.Test.YtefdlnomkojckaaGreatDoorRdD
import Derived.Test.YtefdlnomkojckaaGreatDoorOkP
import Derived.Laws.EntriesVeiled
namespace Go.Proofs.YtefdlnomkojckaaGreatDoor
open Go.RowKit
set_option linter.unusedSimpArgs false

set_option maxHeartbeats 8000000 in
set_option maxRecDepth 100000 in
theorem hasName_ok (w : World) (hE : EnvA w) (op n : Int) (s : ByteArray) (ao : Option Addr) (l cap : Nat) (hs : s.size ≤ 1048576) :
    Calls Tryz.prog 45 #[.agg #[.int .i64 op, .string s, .int .i64 n, .slice ao l cap]] w fun e w' => e = .returned (.bool (decide (n = 0) && nameR s false)) ∧ Kept w w' := by
  have b0 := Cells.new w 29 #[.int .i64 op, .string s, .int .i64 n, .slice ao l cap]
  have k0 : Kept w (w.alloc (.cells #[.int .i64 op, .string s, .int .i64 n, .slice ao l cap] 29)) := Kept.alloc (Below.refl _ _) _
  have c1 := b0.cell 1; have c2 := b0.cell 2
  simp at c1 c2
  have hC := isName_ok _ (hE.kept k0) s hs
  obtain ⟨x, hx⟩ : ∃ x, nameR s false = x := ⟨_, rfl⟩
  rw [hx] at hC
  rw [hx]
  clear hx hE
  cases x
  · have HX : Hid ((decide (n = 0) && false) = false) := by simp [Hid]
    go_enter Tryz.func45, Tryz.ntmps45
    go_wp2_with (go_at_call 63; refine hC.mono ?_; rintro e w1 ⟨rfl, hk1⟩)
    go_ret
    exact ⟨by rw [HX.out]; rfl, k0.trans hk1⟩
  · by_cases hn : n = 0
    · subst hn
      go_enter Tryz.func45, Tryz.ntmps45
      go_wp2_with (go_at_call 63; refine hC.mono ?_; rintro e w1 ⟨rfl, hk1⟩; have y := b0.kept hk1; have c2 := y.cell 2; simp at c2)
      go_ret
      exact ⟨rfl, k0.trans hk1⟩
    · have q : (n == 0) = false := by simpa using hn
      rw [decide_eq_false hn]
      clear hn
      go_enter Tryz.func45, Tryz.ntmps45
      go_wp2_with (go_at_call 63; refine hC.mono ?_; rintro e w1 ⟨rfl, hk1⟩; have y := b0.kept hk1; have c2 := y.cell 2; simp at c2)
      go_ret
      exact ⟨rfl, k0.trans hk1⟩
set_option maxHeartbeats 8000000 in
set_option maxRecDepth 100000 in
theorem hasProperty_ok (w : World) (hE : EnvA w) (op n : Int) (s : ByteArray) (ao : Option Addr) (l cap : Nat) (hs : s.size ≤ 1048576) :
    Calls Tryz.prog 49 #[.agg #[.int .i64 op, .string s, .int .i64 n, .slice ao l cap]] w fun e w' => e = .returned (.bool (decide (n = 0) && nameR s true)) ∧ Kept w w' := by
  have b0 := Cells.new w 29 #[.int .i64 op, .string s, .int .i64 n, .slice ao l cap]
  have k0 : Kept w (w.alloc (.cells #[.int .i64 op, .string s, .int .i64 n, .slice ao l cap] 29)) := Kept.alloc (Below.refl _ _) _
  have c1 := b0.cell 1; have c2 := b0.cell 2
  simp at c1 c2
  have hC := isProperty_ok _ (hE.kept k0) s hs
  obtain ⟨x, hx⟩ : ∃ x, nameR s true = x := ⟨_, rfl⟩
  rw [hx] at hC
  rw [hx]
  clear hx hE
  cases x
  · have HX : Hid ((decide (n = 0) && false) = false) := by simp [Hid]
    go_enter Tryz.func49, Tryz.ntmps49
    go_wp2_with (go_at_call 64; refine hC.mono ?_; rintro e w1 ⟨rfl, hk1⟩)
    go_ret
    exact ⟨by rw [HX.out]; rfl, k0.trans hk1⟩
  · by_cases hn : n = 0
    · subst hn
      go_enter Tryz.func49, Tryz.ntmps49
      go_wp2_with (go_at_call 64; refine hC.mono ?_; rintro e w1 ⟨rfl, hk1⟩; have y := b0.kept hk1; have c2 := y.cell 2; simp at c2)
      go_ret
      exact ⟨rfl, k0.trans hk1⟩
    · have q : (n == 0) = false := by simpa using hn
      rw [decide_eq_false hn]
      clear hn
      go_enter Tryz.func49, Tryz.ntmps49
      go_wp2_with (go_at_call 64; refine hC.mono ?_; rintro e w1 ⟨rfl, hk1⟩; have y := b0.kept hk1; have c2 := y.cell 2; simp at c2)
      go_ret
      exact ⟨rfl, k0.trans hk1⟩
set_option maxHeartbeats 8000000 in
set_option maxRecDepth 100000 in
theorem hasText_ok (w : World) (op n : Int) (s : ByteArray) (ao : Option Addr) (l cap : Nat) (hs : s.size ≤ 1048576) :
    Calls Tryz.prog 68 #[.agg #[.int .i64 op, .string s, .int .i64 n, .slice ao l cap]] w fun e w' => e = .returned (.bool (decide (n = 0) && textR s)) ∧ Kept w w' := by
  have b0 := Cells.new w 29 #[.int .i64 op, .string s, .int .i64 n, .slice ao l cap]
  have k0 : Kept w (w.alloc (.cells #[.int .i64 op, .string s, .int .i64 n, .slice ao l cap] 29)) := Kept.alloc (Below.refl _ _) _
  have c1 := b0.cell 1; have c2 := b0.cell 2
  simp at c1 c2
  have hC := isQuotable_ok (w.alloc (.cells #[.int .i64 op, .string s, .int .i64 n, .slice ao l cap] 29)) s hs
  obtain ⟨x, hx⟩ : ∃ x, textR s = x := ⟨_, rfl⟩
  rw [hx] at hC
  rw [hx]
  clear hx
  cases x
  · have HX : Hid ((decide (n = 0) && false) = false) := by simp [Hid]
    go_enter Tryz.func68, Tryz.ntmps68
    go_wp2_with (go_at_call 88; refine hC.mono ?_; rintro e w1 ⟨rfl, hk1⟩)
    go_ret
    exact ⟨by rw [HX.out]; rfl, k0.trans hk1⟩
  · by_cases hn : n = 0
    · subst hn
      go_enter Tryz.func68, Tryz.ntmps68
      go_wp2_with (go_at_call 88; refine hC.mono ?_; rintro e w1 ⟨rfl, hk1⟩; have y := b0.kept hk1; have c2 := y.cell 2; simp at c2)
      go_ret
      exact ⟨rfl, k0.trans hk1⟩
    · have q : (n == 0) = false := by simpa using hn
      rw [decide_eq_false hn]
      clear hn
      go_enter Tryz.func68, Tryz.ntmps68
      go_wp2_with (go_at_call 88; refine hC.mono ?_; rintro e w1 ⟨rfl, hk1⟩; have y := b0.kept hk1; have c2 := y.cell 2; simp at c2)
      go_ret
      exact ⟨rfl, k0.trans hk1⟩
set_option maxHeartbeats 8000000 in
set_option maxRecDepth 100000 in
theorem hasNames_ok (w : World) (hE : EnvA w) (op n : Int) (s : ByteArray) (ao : Option Addr) (l cap : Nat) (hs : s.size ≤ 1048576) :
    Calls Tryz.prog 76 #[.agg #[.int .i64 op, .string s, .int .i64 n, .slice ao l cap]] w fun e w' => e = .returned (.bool (decide (n = 0) && namesR s)) ∧ Kept w w' := by
  have b0 := Cells.new w 29 #[.int .i64 op, .string s, .int .i64 n, .slice ao l cap]
  have k0 : Kept w (w.alloc (.cells #[.int .i64 op, .string s, .int .i64 n, .slice ao l cap] 29)) := Kept.alloc (Below.refl _ _) _
  have c1 := b0.cell 1; have c2 := b0.cell 2
  simp at c1 c2
  have hC := areNames_ok _ (hE.kept k0) s hs
  obtain ⟨x, hx⟩ : ∃ x, namesR s = x := ⟨_, rfl⟩
  rw [hx] at hC
  rw [hx]
  clear hx hE
  cases x
  · have HX : Hid ((decide (n = 0) && false) = false) := by simp [Hid]
    go_enter Tryz.func76, Tryz.ntmps76
    go_wp2_with (go_at_call 92; refine hC.mono ?_; rintro e w1 ⟨rfl, hk1⟩)
    go_ret
    exact ⟨by rw [HX.out]; rfl, k0.trans hk1⟩
  · by_cases hn : n = 0
    · subst hn
      go_enter Tryz.func76, Tryz.ntmps76
      go_wp2_with (go_at_call 92; refine hC.mono ?_; rintro e w1 ⟨rfl, hk1⟩; have y := b0.kept hk1; have c2 := y.cell 2; simp at c2)
      go_ret
      exact ⟨rfl, k0.trans hk1⟩
    · have q : (n == 0) = false := by simpa using hn
      rw [decide_eq_false hn]
      clear hn
      go_enter Tryz.func76, Tryz.ntmps76
      go_wp2_with (go_at_call 92; refine hC.mono ?_; rintro e w1 ⟨rfl, hk1⟩; have y := b0.kept hk1; have c2 := y.cell 2; simp at c2)
      go_ret
      exact ⟨rfl, k0.trans hk1⟩
theorem hasNothing_ok (w : World) (op n : Int) (s : ByteArray) (ao : Option Addr) (l cap : Nat) :
    Calls Tryz.prog 42 #[.agg #[.int .i64 op, .string s, .int .i64 n, .slice ao l cap]] w fun e w' => e = .returned (.bool (decide (n = 0) && s.toList.isEmpty)) ∧ Kept w w' := by
  have k0 : Kept w (w.alloc (.cells #[.int .i64 op, .string s, .int .i64 n, .slice ao l cap] 29)) := Kept.alloc (Below.refl _ _) _
  cases hs : s.toList.isEmpty with
  | false =>
    have q : s.toList.isEmpty = false := hs
    have HX : Hid ((decide (n = 0) && false) = false) := by simp [Hid]
    clear hs
    go_enter Tryz.func42, Tryz.ntmps42
    go_wp2_with fail
    go_ret
    exact ⟨by rw [HX.out]; rfl, k0⟩
  | true =>
    have q : s.toList.isEmpty = true := hs
    clear hs
    by_cases hn : n = 0
    · subst hn
      go_enter Tryz.func42, Tryz.ntmps42
      go_wp2_with fail
      go_ret
      exact ⟨rfl, k0⟩
    · have q2 : (n == 0) = false := by simpa using hn
      rw [decide_eq_false hn]
      clear hn
      go_enter Tryz.func42, Tryz.ntmps42
      go_wp2_with fail
      go_ret
      exact ⟨rfl, k0⟩
theorem hasNumber_ok (w : World) (op n : Int) (s : ByteArray) (ao : Option Addr) (l cap : Nat) :
    Calls Tryz.prog 66 #[.agg #[.int .i64 op, .string s, .int .i64 n, .slice ao l cap]] w fun e w' => e = .returned (.bool (s.toList.isEmpty && decide (-2147483647 ≤ n ∧ n ≤ 2147483647))) ∧ Kept w w' := by
  have k0 : Kept w (w.alloc (.cells #[.int .i64 op, .string s, .int .i64 n, .slice ao l cap] 29)) := Kept.alloc (Below.refl _ _) _
  cases hs : s.toList.isEmpty with
  | false =>
    have q : s.toList.isEmpty = false := hs
    clear hs
    go_enter Tryz.func66, Tryz.ntmps66
    go_wp2_with fail
    go_ret
    exact ⟨rfl, k0⟩
  | true =>
    have q : s.toList.isEmpty = true := hs
    clear hs
    by_cases h1 : -2147483647 ≤ n
    · by_cases h2 : n ≤ 2147483647
      · rw [decide_eq_true ⟨h1, h2⟩]
        go_enter Tryz.func66, Tryz.ntmps66
        go_wp2_with fail
        go_ret
        exact ⟨rfl, k0⟩
      · rw [decide_eq_false (by omega)]
        have q2 : decide (n ≤ 2147483647) = false := decide_eq_false h2
        clear h2
        go_enter Tryz.func66, Tryz.ntmps66
        go_wp2_with fail
        go_ret
        exact ⟨rfl, k0⟩
    · rw [decide_eq_false (by omega)]
      have q2 : decide (-2147483647 ≤ n) = false := decide_eq_false h1
      clear h1
      go_enter Tryz.func66, Tryz.ntmps66
      go_wp2_with fail
      go_ret
      exact ⟨rfl, k0⟩
theorem count_ok (w : World) (a b n : Int) (sl : Option Addr) (l c : Nat) :
    Calls Tryz.prog 32 #[.agg #[.int .i64 a, .int .i64 b, .slice sl l c], .int .i64 n] w fun e w' => e = .returned (.bool (decide (a ≤ n ∧ n ≤ b))) ∧ Kept w w' := by
  have k0 : Kept w (w.alloc (.cells #[.int .i64 a, .int .i64 b, .slice sl l c] 58)) := Kept.alloc (Below.refl _ _) _
  by_cases h1 : a ≤ n
  · by_cases h2 : n ≤ b
    · rw [decide_eq_true ⟨h1, h2⟩]
      go_enter Tryz.func32, Tryz.ntmps32
      go_wp2_with fail
      go_ret
      exact ⟨rfl, k0⟩
    · rw [decide_eq_false (by omega)]
      have q2 : decide (n ≤ b) = false := decide_eq_false h2
      clear h2
      go_enter Tryz.func32, Tryz.ntmps32
      go_wp2_with fail
      go_ret
      exact ⟨rfl, k0⟩
  · rw [decide_eq_false (by omega)]
    have q2 : decide (a ≤ n) = false := decide_eq_false h1
    clear h1
    go_enter Tryz.func32, Tryz.ntmps32
    go_wp2_with fail
    go_ret
    exact ⟨rfl, k0⟩
theorem at_ok (w : World) (a b x : Int) (g l c : Nat) (i : Nat) (hl : 1 ≤ l) (hl2 : l ≤ 1048576) (hx : w.cell? ⟨g, min i (l - 1), none⟩ = some (.int .i64 x)) :
    Calls Tryz.prog 33 #[.agg #[.int .i64 a, .int .i64 b, .slice (some ⟨g, 0, none⟩) l c], .int .i64 (i : Nat)] w fun e w' => e = .returned (.int .i64 x) ∧ Kept w w' := by
  have k0 : Kept w (w.alloc (.cells #[.int .i64 a, .int .i64 b, .slice (some ⟨g, 0, none⟩) l c] 58)) := Kept.alloc (Below.refl _ _) _
  have hx1 := kept_cell k0 hx
  obtain ⟨m, hm⟩ : ∃ m, min i (l - 1) = m := ⟨_, rfl⟩
  rw [hm] at hx1
  have q1 : min ((i : Nat) : Int) (((l : Nat) : Int) - 1) = ((m : Nat) : Int) := by omega
  have q2 : ((m : Nat) : Int) < ((l : Nat) : Int) := by omega
  have q3 : IntKind.i64.wrap (((l : Nat) : Int) - 1) = ((l : Nat) : Int) - 1 := IntWalk.i64_in _ ⟨by omega, by omega⟩
  clear hm hx
  go_enter Tryz.func33, Tryz.ntmps33
  go_wp2_with fail
  go_ret
  exact ⟨rfl, k0⟩
end Go.Proofs.YtefdlnomkojckaaGreatDoor
