/-
  The contracts of the draws of chapter 1 (spec.DrawWrap, DrawIntOf, DrawBoolOf, DrawRefOf, DrawKind, DrawNum, DrawValueOk): each returns an integer that fits, or a bool, and turns no memory that was there.
-/
import Derived.Test.YteakojjjkignmacDraw
namespace Go.Proofs.Yteakojjjkignmac
open Go.RowKit

def numList : List Int := [0, 1, 2, -1, -5, 77, 1999, 2000, 2147483647, 2147483648, -2147483648, -2147483649, 4294967296, 9223372036854775807, -9223372036854775808]
def anyList : List Int := [0, 1, 2, 5, 1999, 2000, -1]
theorem numList_in : ∀ x ∈ numList, -9223372036854775808 ≤ x ∧ x ≤ 9223372036854775807 := by decide
theorem anyList_in : ∀ x ∈ anyList, -1 ≤ x ∧ x ≤ 2000 := by decide

theorem Cur.alloc {w : World} {c : Nat} {a : Option Addr} {len cap : Nat} {z : Nat → Int} (h : Cur w c a len cap z) (o : Obj) : Cur (w.alloc o) c a len cap z := by
  obtain ⟨lt, src, b, i, g, f1, f2⟩ := h
  refine ⟨by simp; omega, src.alloc _ (by omega), ?_, ?_, ?_, ?_, ?_⟩
  · rw [World.cell?_alloc_past _ _ _ lt]; exact b
  · obtain ⟨k, hk, e⟩ := i
    exact ⟨k, hk, by rw [World.cell?_alloc_past _ _ _ lt]; exact e⟩
  · obtain ⟨k, e⟩ := g
    exact ⟨k, by rw [World.cell?_alloc_past _ _ _ lt]; exact e⟩
  · rw [World.frozen?_alloc_past _ _ _ lt]; exact f1
  · rw [World.frozen?_alloc_past _ _ _ lt]; exact f2

theorem lits_cell (w : World) (l : List Int) (C : Array Value) (t : TypeId) (hC : C = (l.map (Value.int .i64)).toArray) (i : Nat) (hi : i < l.length) : (w.alloc (.cells C t)).cell? ⟨w.heap.size, 0 + i, none⟩ = some (.int .i64 (l.getD i 0)) := by
  subst hC
  rw [World.cell?_alloc_at _ _ _ _ rfl]
  simp [hi]

theorem l1PickInt_at (c : Nat) (a : Option Addr) (len cap : Nat) (z : Nat → Int) (l : List Int) (n : Nat) (hn : l.length = n) (hl0 : 0 < n) (hl : n ≤ 9223372036854775807) (C : Array Value) (t : TypeId) (hC : C = (l.map (Value.int .i64)).toArray) (w : World) (h : Cur w c a len cap z) :
    Calls Try.prog 38 #[.pointer (some ⟨c, 0, none⟩), .slice (some ⟨w.heap.size, 0, none⟩) n n] (w.alloc (.cells C t)) fun e w' => ∃ x : Int, e = .returned (.int .i64 x) ∧ x ∈ l ∧ Keeps c w w' ∧ Cur w' c a len cap z := by
  subst hn
  have hlt := h.lt
  refine (l1PickInt_ok c a len cap z w.heap.size 0 l l.length hl0 hl _ (h.alloc _) (by simp) (by omega) (lits_cell w l C t hC)).mono ?_
  rintro e w' ⟨x, rfl, hx, hk, hc⟩
  exact ⟨x, rfl, hx, ((Keeps.refl _ _).alloc _).trans hk, hc⟩

theorem l1DrawNum_ok (c : Nat) (a : Option Addr) (len cap : Nat) (z : Nat → Int) (w : World) (h : Cur w c a len cap z) :
    Calls Try.prog 26 #[.pointer (some ⟨c, 0, none⟩)] w fun e w' => ∃ x : Int, e = .returned (.int .i64 x) ∧ (-9223372036854775808 ≤ x ∧ x ≤ 9223372036854775807) ∧ Keeps c w w' ∧ Cur w' c a len cap z := by
  go_enter Try.func26, Try.ntmps26
  go_wp2_with fail
  refine (l1PickInt_at c a len cap z numList 15 rfl (by omega) (by omega) _ _ rfl w h).mono ?_
  rintro e w1 ⟨x, rfl, hx, hk, hc⟩
  have hb := numList_in x hx
  clear hx
  go_wp2
  go_ret
  exact ⟨x, rfl, hb, hk, hc⟩

theorem l1DrawAny_ok (c : Nat) (a : Option Addr) (len cap : Nat) (z : Nat → Int) (w : World) (h : Cur w c a len cap z) :
    Calls Try.prog 32 #[.pointer (some ⟨c, 0, none⟩)] w fun e w' => ∃ x : Int, e = .returned (.int .i64 x) ∧ (-9223372036854775808 ≤ x ∧ x ≤ 9223372036854775807) ∧ Keeps c w w' ∧ Cur w' c a len cap z := by
  go_enter Try.func32, Try.ntmps32
  go_wp2_with fail
  refine (l1Once_ok c a len cap z 3 (by omega) w h).mono ?_
  rintro e w1 ⟨x, rfl, hk, hc⟩
  cases x
  · go_wp2_with fail
    refine (l1PickInt_at c a len cap z anyList 7 rfl (by omega) (by omega) _ _ rfl w1 hc).mono ?_
    rintro e w2 ⟨x, rfl, hx, hk2, hc2⟩
    have hb := anyList_in x hx
    clear hx
    go_wp2_with fail
    refine (l1Below_ok c a len cap z 8 (by omega) w2 hc2).mono ?_
    rintro e w3 ⟨y, rfl, hy0, hy1, hk3, hc3⟩
    have hy2 : y < 8 := hy1 (by omega)
    clear hy1
    go_wp2
    go_ret
    exact ⟨_, rfl, by omega, (hk.trans hk2).trans hk3, hc3⟩
  · go_wp2_with fail
    refine (l1DrawNum_ok c a len cap z w1 hc).mono ?_
    rintro e w2 ⟨x, rfl, hx, hk2, hc2⟩
    go_wp2
    go_ret
    exact ⟨x, rfl, hx, hk.trans hk2, hc2⟩

theorem DrawWrap_ok (a : Option Addr) (len cap : Nat) (z : Nat → Int) (w : World) (h : Src w.heap.size w a len z) :
    Calls Try.prog 10 #[.slice a len cap] w fun e w' => ∃ x : Int, e = .returned (.int .i64 x) ∧ (-9223372036854775808 ≤ x ∧ x ≤ 9223372036854775807) ∧ Below w.heap.size w w' := by
  go_enter Try.func10, Try.ntmps10
  go_wp2_with fail
  refine (l1New_ok a len cap z w h).mono ?_
  rintro e w1 ⟨c, rfl, hc, hbel, hcur⟩
  go_wp2_with fail
  refine (l1DrawNum_ok c a len cap z w1 hcur).mono ?_
  rintro e w2 ⟨x, rfl, hx, hk, hc2⟩
  go_wp2
  go_ret
  exact ⟨x, rfl, hx, hbel.trans (hk.below hc hbel.size)⟩


theorem DrawIntOf_ok (a : Option Addr) (len cap : Nat) (z : Nat → Int) (w : World) (h : Src w.heap.size w a len z) :
    Calls Try.prog 5 #[.slice a len cap] w fun e w' => ∃ x : Int, e = .returned (.int .i64 x) ∧ (-9223372036854775808 ≤ x ∧ x ≤ 9223372036854775807) ∧ Below w.heap.size w w' := by
  go_enter Try.func5, Try.ntmps5
  go_wp2_with fail
  refine (l1New_ok a len cap z w h).mono ?_
  rintro e w1 ⟨c, rfl, hc, hbel, hcur⟩
  go_wp2_with fail
  refine (l1DrawNum_ok c a len cap z w1 hcur).mono ?_
  rintro e w2 ⟨x, rfl, hx, hk, hc2⟩
  go_wp2
  go_ret
  exact ⟨x, rfl, hx, hbel.trans (hk.below hc hbel.size)⟩


theorem DrawKind_ok (a : Option Addr) (len cap : Nat) (z : Nat → Int) (w : World) (h : Src w.heap.size w a len z) :
    Calls Try.prog 18 #[.slice a len cap] w fun e w' => ∃ x : Int, e = .returned (.int .i64 x) ∧ (-9223372036854775808 ≤ x ∧ x ≤ 9223372036854775807) ∧ Below w.heap.size w w' := by
  go_enter Try.func18, Try.ntmps18
  go_wp2_with fail
  refine (l1New_ok a len cap z w h).mono ?_
  rintro e w1 ⟨c, rfl, hc, hbel, hcur⟩
  go_wp2_with fail
  refine (l1DrawAny_ok c a len cap z w1 hcur).mono ?_
  rintro e w2 ⟨x, rfl, hx, hk, hc2⟩
  go_wp2
  go_ret
  exact ⟨x, rfl, hx, hbel.trans (hk.below hc hbel.size)⟩


theorem DrawNum_ok (a : Option Addr) (len cap : Nat) (z : Nat → Int) (w : World) (h : Src w.heap.size w a len z) :
    Calls Try.prog 19 #[.slice a len cap] w fun e w' => ∃ x : Int, e = .returned (.int .i64 x) ∧ (-9223372036854775808 ≤ x ∧ x ≤ 9223372036854775807) ∧ Below w.heap.size w w' := by
  go_enter Try.func19, Try.ntmps19
  go_wp2_with fail
  refine (l1New_ok a len cap z w h).mono ?_
  rintro e w1 ⟨c, rfl, hc, hbel, hcur⟩
  go_wp2_with fail
  refine (l1DrawAny_ok c a len cap z w1 hcur).mono ?_
  rintro e w2 ⟨x, rfl, hx, hk, hc2⟩
  go_wp2
  go_ret
  exact ⟨x, rfl, hx, hbel.trans (hk.below hc hbel.size)⟩


theorem DrawValueOk_ok (a : Option Addr) (len cap : Nat) (z : Nat → Int) (w : World) (h : Src w.heap.size w a len z) :
    Calls Try.prog 9 #[.slice a len cap] w fun e w' => ∃ x : Int, e = .returned (.int .i64 x) ∧ (-9223372036854775808 ≤ x ∧ x ≤ 9223372036854775807) ∧ Below w.heap.size w w' := by
  go_enter Try.func9, Try.ntmps9
  go_wp2_with fail
  refine (l1New_ok a len cap z w h).mono ?_
  rintro e w1 ⟨c, rfl, hc, hbel, hcur⟩
  go_wp2_with fail
  refine (l1DrawAny_ok c a len cap z w1 hcur).mono ?_
  rintro e w2 ⟨x, rfl, hx, hk, hc2⟩
  go_wp2
  go_ret
  exact ⟨x, rfl, hx, hbel.trans (hk.below hc hbel.size)⟩

theorem DrawBoolOf_ok (a : Option Addr) (len cap : Nat) (z : Nat → Int) (w : World) (h : Src w.heap.size w a len z) :
    Calls Try.prog 17 #[.slice a len cap] w fun e w' => ∃ x : Bool, e = .returned (.bool x) ∧ Below w.heap.size w w' := by
  go_enter Try.func17, Try.ntmps17
  go_wp2_with fail
  refine (l1New_ok a len cap z w h).mono ?_
  rintro e w1 ⟨c, rfl, hc, hbel, hcur⟩
  go_wp2_with fail
  refine (l1Once_ok c a len cap z 2 (by omega) w1 hcur).mono ?_
  rintro e w2 ⟨x, rfl, hk, hc2⟩
  go_wp2
  go_ret
  exact ⟨x, rfl, hbel.trans (hk.below hc hbel.size)⟩

theorem DrawRefOf_ok (a : Option Addr) (len cap : Nat) (z : Nat → Int) (w : World) (h : Src w.heap.size w a len z) :
    Calls Try.prog 7 #[.slice a len cap] w fun e w' => ∃ k x : Int, e = .returned (.tuple #[.int .i64 k, .int .i64 x]) ∧ (-1 ≤ k ∧ k ≤ 8) ∧ (-9223372036854775808 ≤ x ∧ x ≤ 9223372036854775807) ∧ Below w.heap.size w w' := by
  go_enter Try.func7, Try.ntmps7
  go_wp2_with fail
  refine (l1New_ok a len cap z w h).mono ?_
  rintro e w1 ⟨c, rfl, hc, hbel, hcur⟩
  go_wp2_with fail
  refine (l1Below_ok c a len cap z 10 (by omega) w1 hcur).mono ?_
  rintro e w2 ⟨y, rfl, hy0, hy1, hk2, hc2⟩
  have hy2 : y < 10 := hy1 (by omega)
  clear hy1
  go_wp2_with fail
  refine (l1DrawNum_ok c a len cap z w2 hc2).mono ?_
  rintro e w3 ⟨x, rfl, hx, hk3, hc3⟩
  go_wp2
  go_ret2
  exact ⟨_, _, rfl, by omega, hx, hbel.trans ((hk2.trans hk3).below hc hbel.size)⟩
end Go.Proofs.Yteakojjjkignmac
