/-
  The contracts of chapter 3's small functions of the program: the shape of a block, the role of a word in it.
-/
import Derived.Test.YtpbafjcoomfooaaGreatSlabV
namespace Go.Proofs.YtpbafjcoomfooaaGreat
open Go.RowKit
attribute [local go_sem] Plain.and7

/-- The shape that shapeOf tells of a block of a kind; n: the word behind its first one. -/
def shV (kind : Nat) (n : Int) : Value := match kind with
  | 1 => .iface 144 (.agg #[.int .i64 n])
  | 2 => .iface 146 (.agg #[])
  | 3 => .iface 147 (.agg #[])
  | 4 => .iface 148 (.agg #[])
  | 5 => .iface 149 (.agg #[])
  | _ => .iface 150 (.agg #[])

set_option maxHeartbeats 1000000 in
theorem shapeOf_ok (w : World) (ao : Option Addr) (cap : Nat) (zs : List Int) (a s q : Nat) (hI : Ints w ao zs) (hl : zs.length ≤ 1048576) (hle : a + s ≤ zs.length) (hs : 2 ≤ s) (hq : q ≤ 5) :
    Calls Tryz.prog 140 #[.slice ao zs.length cap, bkV a s q] w fun e w' => e = .returned (shV q (hz zs (a + 1))) ∧ Kept w w' := by
  obtain ⟨b, off, rfl, hc⟩ := hI.at (k := 0) (by omega)
  have hck := hc (a + 1) (by omega)
  have hbl : b < w.heap.size := World.block_lt_of_cell? _ _ hck
  have h1 : (a : Int) + 1 < (zs.length : Int) := by omega
  have h0 : (0 : Int) ≤ (a : Int) + 1 := by omega
  clear hc hI
  rcases (show q = 0 ∨ q = 1 ∨ q = 2 ∨ q = 3 ∨ q = 4 ∨ q = 5 by omega) with rfl | rfl | rfl | rfl | rfl | rfl
  all_goals (
    go_enter Tryz.func140, Tryz.ntmps140
    go_wp2
    go_ret
    exact ⟨rfl, Kept.alloc (Below.refl _ _) _⟩)
/-- The role of word i of a block of a kind; n: the word behind its first one. -/
def roleOf (kind : Nat) (n i : Int) : Int := match kind with
  | 1 => if i = 1 then 2 else if i - 2 < n then 3 else 1
  | 2 => if i = 1 then 5 else if i = 2 then 6 else 1
  | 3 => if i = 1 then 7 else if i = 2 then 10 else if i = 3 then 6 else 1
  | 4 => if i = 1 then 4 else if i = 2 then 8 else 1
  | 5 => if i = 1 then 9 else 10
  | _ => 0
set_option maxHeartbeats 1000000 in
theorem textRole_ok (n i : Int) (w : World) (h1 : 1 ≤ i) (h2 : i ≤ 1048576) : Calls Tryz.prog 177 #[.agg #[.int .i64 n], .int .i64 i] w fun e w' => e = .returned (.int .i64 (roleOf 1 n i)) ∧ Kept w w' := by
  rcases (show i = 1 ∨ (1 < i ∧ i - 2 < n) ∨ (1 < i ∧ ¬ i - 2 < n) by omega) with rfl | ⟨h3, h4⟩ | ⟨h3, h4⟩
  · go_enter Tryz.func177, Tryz.ntmps177
    go_wp2
    go_ret
    exact ⟨rfl, Kept.alloc (Below.refl _ _) _⟩
  all_goals (
    have hd : (i == 1) = false := by simp; omega
    go_enter Tryz.func177, Tryz.ntmps177
    go_wp2
    go_ret
    exact ⟨by simp [roleOf, show ¬ i = 1 by omega, h4], Kept.alloc (Below.refl _ _) _⟩)
set_option maxHeartbeats 1000000 in
theorem objRole_ok (n i : Int) (w : World) : Calls Tryz.prog 178 #[.agg #[], .int .i64 i] w fun e w' => e = .returned (.int .i64 (roleOf 2 n i)) ∧ Kept w w' := by
  rcases (show i = 1 ∨ i = 2 ∨ (¬ i = 1 ∧ ¬ i = 2) by omega) with rfl | rfl | ⟨h1, h2⟩
  all_goals (
    go_enter Tryz.func178, Tryz.ntmps178
    go_wp2
    go_ret
    exact ⟨by simp [roleOf, *], Kept.alloc (Below.refl _ _) _⟩)
set_option maxHeartbeats 1000000 in
theorem cellRole_ok (n i : Int) (w : World) : Calls Tryz.prog 179 #[.agg #[], .int .i64 i] w fun e w' => e = .returned (.int .i64 (roleOf 3 n i)) ∧ Kept w w' := by
  rcases (show i = 1 ∨ i = 2 ∨ i = 3 ∨ (¬ i = 1 ∧ ¬ i = 2 ∧ ¬ i = 3) by omega) with rfl | rfl | rfl | ⟨h1, h2, h3⟩
  all_goals (
    go_enter Tryz.func179, Tryz.ntmps179
    go_wp2
    go_ret
    exact ⟨by simp [roleOf, *], Kept.alloc (Below.refl _ _) _⟩)
set_option maxHeartbeats 1000000 in
theorem funRole_ok (n i : Int) (w : World) : Calls Tryz.prog 180 #[.agg #[], .int .i64 i] w fun e w' => e = .returned (.int .i64 (roleOf 4 n i)) ∧ Kept w w' := by
  rcases (show i = 1 ∨ i = 2 ∨ (¬ i = 1 ∧ ¬ i = 2) by omega) with rfl | rfl | ⟨h1, h2⟩
  all_goals (
    go_enter Tryz.func180, Tryz.ntmps180
    go_wp2
    go_ret
    exact ⟨by simp [roleOf, *], Kept.alloc (Below.refl _ _) _⟩)
set_option maxHeartbeats 1000000 in
theorem scopeRole_ok (n i : Int) (w : World) : Calls Tryz.prog 181 #[.agg #[], .int .i64 i] w fun e w' => e = .returned (.int .i64 (roleOf 5 n i)) ∧ Kept w w' := by
  rcases (show i = 1 ∨ ¬ i = 1 by omega) with rfl | h1
  all_goals (
    go_enter Tryz.func181, Tryz.ntmps181
    go_wp2
    go_ret
    exact ⟨by simp [roleOf, *], Kept.alloc (Below.refl _ _) _⟩)
theorem freeRole_ok (n i : Int) (w : World) : Calls Tryz.prog 182 #[.agg #[], .int .i64 i] w fun e w' => e = .returned (.int .i64 (roleOf 0 n i)) ∧ Kept w w' := by
  go_enter Tryz.func182, Tryz.ntmps182
  go_wp2
  go_ret
  exact ⟨rfl, Kept.alloc (Below.refl _ _) _⟩
theorem mFree (v : Value) (w : World) : Sem.run Tryz.prog (method 270 150 v "loop.example/g00242/impl.role") w = .ok (182, v) w := by kernel_rfl
theorem mText (v : Value) (w : World) : Sem.run Tryz.prog (method 270 144 v "loop.example/g00242/impl.role") w = .ok (177, v) w := by kernel_rfl
theorem mObj (v : Value) (w : World) : Sem.run Tryz.prog (method 270 146 v "loop.example/g00242/impl.role") w = .ok (178, v) w := by kernel_rfl
theorem mCell (v : Value) (w : World) : Sem.run Tryz.prog (method 270 147 v "loop.example/g00242/impl.role") w = .ok (179, v) w := by kernel_rfl
theorem mFun (v : Value) (w : World) : Sem.run Tryz.prog (method 270 148 v "loop.example/g00242/impl.role") w = .ok (180, v) w := by kernel_rfl
theorem mScope (v : Value) (w : World) : Sem.run Tryz.prog (method 270 149 v "loop.example/g00242/impl.role") w = .ok (181, v) w := by kernel_rfl
end Go.Proofs.YtpbafjcoomfooaaGreat
