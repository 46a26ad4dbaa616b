/-
  The contracts of chapter 2's small functions of the program: a block's end, whether it is free, its first word, what is read at a place; what they return, and that nothing which lay before is turned.
-/
import Derived.Test.YtpbafjcoomfooaaGreatRows
import Derived.Test.YtpbafjcoomfooaaGreatPlain
import Derived.Test.YtpbafjcoomfooaaGreatSlabP
import Derived.Test.YtpbafjcoomfooaaGreatVal
import Derived.WalkKit
import Derived.WalkLawsBesides
import Derived.OpenShut
import Derived.Deep.QuietTactic
import Derived.BigQuiet
namespace Go.Proofs.YtpbafjcoomfooaaGreat
open Go.RowKit
attribute [local go_sem] Plain.and7

/-- All that lay lies as it lay. -/
abbrev Kept (w w' : World) : Prop := Below w.heap.size w w'
theorem Kept.trans {a b c : World} (h : Kept a b) (k : Kept b c) : Kept a c := Below.trans h (k.mono h.size)
theorem Kept.alloc {a b : World} (h : Kept a b) (o : Obj) : Kept a (b.alloc o) := Below.alloc h h.size o
theorem Kept.grown {w w' : World} (h : Kept w w') : w.grownBy w' none := ⟨h.os, h.tape, h.output, h.size, fun k hk _ => h.block k hk⟩

/-- Block B holds just these cells. -/
def Cells (W : World) (B : Nat) (t : TypeId) (cs : Array Value) : Prop := W.heap[B]? = some (.cells cs t (0, 0))
theorem Cells.new (W : World) (t : TypeId) (cs : Array Value) : Cells (W.alloc (.cells cs t)) W.heap.size t cs := heap_alloc_new W _
theorem Cells.lt {W : World} {B : Nat} {t : TypeId} {cs : Array Value} (h : Cells W B t cs) : B < W.heap.size := (Array.getElem?_eq_some_iff.1 h).1
theorem Cells.kept {W W' : World} {B : Nat} {t : TypeId} {cs : Array Value} (h : Cells W B t cs) (hk : Kept W W') : Cells W' B t cs := (hk.block B h.lt).trans h
theorem Cells.alloc {W : World} {B : Nat} {t : TypeId} {cs : Array Value} (h : Cells W B t cs) (o : Obj) : Cells (W.alloc o) B t cs := h.kept (Kept.alloc (Below.refl _ _) o)
theorem Cells.other {W : World} {B : Nat} {t : TypeId} {cs : Array Value} {p : Addr} (h : Cells W B t cs) (hne : B ≠ p.block) (u : Value) : Cells (W.setCell p u) B t cs := (Below.heap_setCell _ _ _ _ hne).trans h
theorem Cells.cell {W : World} {B : Nat} {t : TypeId} {cs : Array Value} (h : Cells W B t cs) (j : Nat) : W.cell? ⟨B, j, none⟩ = cs[j]? := by simp [World.cell?, show W.heap[B]? = _ from h]
theorem Cells.frozen {W : World} {B : Nat} {t : TypeId} {cs : Array Value} (h : Cells W B t cs) (j : Nat) : W.frozen? ⟨B, j, none⟩ = false := by simp [World.frozen?, show W.heap[B]? = _ from h]
theorem Cells.set {W : World} {B : Nat} {t : TypeId} {cs : Array Value} (j : Nat) (v : Value) (h : Cells W B t cs) : Cells (W.setCell ⟨B, j, none⟩ v) B t (cs.setIfInBounds j v) := by
  obtain ⟨hlt, hk⟩ := Array.getElem?_eq_some_iff.1 h
  show (W.heap.modify B _)[B]? = _
  rw [Array.getElem?_eq_getElem (by rw [Array.size_modify]; exact hlt), Array.getElem_modify_self, hk]
  rfl
theorem Cells.set1 {W : World} {B : Nat} {t : TypeId} {v : Value} (v' : Value) (h : Cells W B t #[v]) : Cells (W.setCell ⟨B, 0, none⟩ v') B t #[v'] := h.set 0 v'
theorem Cells.set3 {W : World} {B : Nat} {t : TypeId} {x y z : Value} (a b c : Value) (h : Cells W B t #[x, y, z]) : Cells (((W.setCell ⟨B, 0, none⟩ a).setCell ⟨B, 1, none⟩ b).setCell ⟨B, 2, none⟩ c) B t #[a, b, c] := ((h.set 0 a).set 1 b).set 2 c
theorem Cells.other3 {W : World} {B B' : Nat} {t : TypeId} {cs : Array Value} (h : Cells W B t cs) (hne : B ≠ B') (a b c : Value) : Cells (((W.setCell ⟨B', 0, none⟩ a).setCell ⟨B', 1, none⟩ b).setCell ⟨B', 2, none⟩ c) B t cs :=
  ((h.other (p := ⟨B', 0, none⟩) hne a).other (p := ⟨B', 1, none⟩) hne b).other (p := ⟨B', 2, none⟩) hne c
theorem Kept.set {a b : World} (h : Kept a b) {p : Addr} (hp : a.heap.size ≤ p.block) (v : Value) : Kept a (b.setCell p v) := Below.setCell h hp v
abbrev bkC (a s q : Int) : Array Value := #[.int .i64 a, .int .i64 s, .int .i64 q]

/-- The words zs lie at the address ao (an empty row lies anywhere). -/
def Ints (W : World) (ao : Option Addr) (zs : List Int) : Prop :=
  (∀ z ∈ zs, -9223372036854775808 ≤ z ∧ z ≤ 9223372036854775807) ∧ (zs = [] ∨ ∃ b off, ao = some ⟨b, off, none⟩ ∧ ∀ j, j < zs.length → W.cell? ⟨b, off + j, none⟩ = some (.int .i64 (hz zs j)))
theorem Ints.at {W : World} {ao : Option Addr} {zs : List Int} (h : Ints W ao zs) {k : Nat} (hk : k < zs.length) : ∃ b off, ao = some ⟨b, off, none⟩ ∧ ∀ j, j < zs.length → W.cell? ⟨b, off + j, none⟩ = some (.int .i64 (hz zs j)) := by
  rcases h.2 with rfl | h
  · simp at hk
  · exact h
theorem Ints.below {B : Nat} {W W' : World} {ao : Option Addr} {zs : List Int} (h : Ints W ao zs) (hb : Below B W W') (hlt : ∀ a, ao = some a → a.block < B) : Ints W' ao zs := by
  refine ⟨h.1, ?_⟩
  rcases h.2 with h | ⟨b, off, e, hc⟩
  · exact .inl h
  · exact .inr ⟨b, off, e, fun j hj => (hb.cell (p := ⟨b, off + j, none⟩) (by have := hlt _ e; exact this)).trans (hc j hj)⟩
theorem Ints.kept {W W' : World} {ao : Option Addr} {zs : List Int} (h : Ints W ao zs) (hb : Kept W W') : Ints W' ao zs := by
  refine ⟨h.1, ?_⟩
  rcases h.2 with h | ⟨b, off, e, hc⟩
  · exact .inl h
  · refine .inr ⟨b, off, e, fun j hj => ?_⟩
    exact (hb.cell (p := ⟨b, off + j, none⟩) (World.block_lt_of_cell? _ _ (hc j hj))).trans (hc j hj)
theorem Ints.bd {W : World} {ao : Option Addr} {zs : List Int} (h : Ints W ao zs) (k : Nat) : -9223372036854775808 ≤ hz zs k ∧ hz zs k ≤ 9223372036854775807 := by
  unfold hz
  by_cases hk : k < zs.length
  · rw [List.getElem?_eq_getElem hk]; exact h.1 _ (List.getElem_mem hk)
  · rw [List.getElem?_eq_none (by omega)]; decide

theorem Ints.lt {W : World} {ao : Option Addr} {zs : List Int} (h : Ints W ao zs) {a : Addr} (hne : zs ≠ []) (e : ao = some a) : a.block < W.heap.size := by
  obtain ⟨b, off, e', hc⟩ := h.at (k := 0) (List.length_pos_iff.2 hne)
  rw [e] at e'; cases e'
  exact World.block_lt_of_cell? _ _ (hc 0 (List.length_pos_iff.2 hne))

/-- A block as the program has it. -/
abbrev bkV (a s q : Int) : Value := .agg #[.int .i64 a, .int .i64 s, .int .i64 q]

theorem end_ok (a s q : Int) (w : World) (h0 : -9223372036854775808 ≤ a + s) (h1 : a + s ≤ 9223372036854775807) :
    Calls Tryz.prog 120 #[bkV a s q] w fun e w' => e = .returned (.int .i64 (a + s)) ∧ w' = w.alloc (.cells #[.int .i64 a, .int .i64 s, .int .i64 q] 111) := by
  go_enter Tryz.func120, Tryz.ntmps120
  go_wp2
  go_ret
  exact ⟨rfl, rfl⟩
theorem free_ok (a s q : Int) (w : World) :
    Calls Tryz.prog 148 #[bkV a s q] w fun e w' => e = .returned (.bool (q == 0)) ∧ w' = w.alloc (.cells #[.int .i64 a, .int .i64 s, .int .i64 q] 111) := by
  go_enter Tryz.func148, Tryz.ntmps148
  go_wp2
  go_ret
  exact ⟨rfl, rfl⟩
theorem blockKind_ok (q : Int) (w : World) :
    Calls Tryz.prog 117 #[.int .i64 q] w fun e w' => e = .returned (.bool (decide (0 ≤ q ∧ q ≤ 5))) ∧ w = w' := by
  go_enter Tryz.func117, Tryz.ntmps117
  go_wp2
  all_goals go_ret
  all_goals (refine ⟨?_, rfl⟩; simp; omega)
theorem header_ok (a s q : Int) (w : World) (h0 : 0 ≤ s) (h1 : s ≤ 140737488351232) (h2 : 0 ≤ q) (h3 : q ≤ 5) :
    Calls Tryz.prog 119 #[bkV a s q] w fun e w' => e = .returned (.int .i64 (8 * s + q)) ∧ w' = w.alloc (.cells #[.int .i64 a, .int .i64 s, .int .i64 q] 111) := by
  go_enter Tryz.func119, Tryz.ntmps119
  go_wp2_with go_in
  go_ret
  exact ⟨rfl, rfl⟩
theorem readBlock_good (w : World) (ao : Option Addr) (cap : Nat) (zs : List Int) (k : Nat) (hI : Ints w ao zs) (hg : Good zs k) (hL : zs.length * 8 ≤ 140737488351232) :
    Calls Tryz.prog 139 #[.slice ao zs.length cap, .int .i64 k] w fun e w' =>
      e = .returned (.tuple #[bkV k (sz zs k) (kd zs k), .bool true]) ∧ Kept w w' := by
  have hbd := hI.bd k
  have hk := hg.1
  obtain ⟨b, off, rfl, hc⟩ := hI.at hk
  have hck := hc k hk
  have hbl : b < w.heap.size := World.block_lt_of_cell? _ _ hck
  have g1 := hg.2.1
  have g2 := hg.2.2.1
  have g3 := hg.2.2.2
  have hq : hz zs k / 8 ≤ 1152921504606846975 := by omega
  have h0 : 0 ≤ hz zs k % 8 := by omega
  rw [hg.szI, kdI]
  clear hc hI hg
  go_enter Tryz.func139, Tryz.ntmps139
  go_wp2_with (first | (go_at_call 73; refine (impl_value_num_ok _ _ hbd.1 hbd.2).mono ?_; rintro e wx ⟨rfl, rfl⟩) | (go_at_call 102; refine (impl_value_kind_ok _ _).mono ?_; rintro e wx ⟨rfl, rfl⟩) | (go_at_call 117; refine (blockKind_ok _ _).mono ?_; rintro e wx ⟨rfl, rfl⟩) | (go_at_call 120; refine (end_ok _ _ _ _ (by omega) (by omega)).mono ?_; rintro e wx ⟨rfl, rfl⟩))
  refine bodyPost_ret (v := .tuple #[bkV k (hz zs k / 8) (hz zs k % 8), .bool true]) (by simp [results, Tryz.results139, go_sem]) rfl ⟨rfl, ?_⟩
  repeat first | exact Below.refl _ _ | refine Kept.alloc ?_ _
theorem readBlock_bad (w : World) (ao : Option Addr) (cap : Nat) (zs : List Int) (k : Nat) (hI : Ints w ao zs) (hk : k < zs.length) (hg : ¬ Good zs k) (hL : zs.length * 8 ≤ 140737488351232) :
    Calls Tryz.prog 139 #[.slice ao zs.length cap, .int .i64 k] w fun e w' =>
      e = .returned (.tuple #[bkV 0 0 0, .bool false]) ∧ Kept w w' := by
  have hbd := hI.bd k
  obtain ⟨b, off, rfl, hc⟩ := hI.at hk
  have hck := hc k hk
  have hbl : b < w.heap.size := World.block_lt_of_cell? _ _ hck
  have hq : hz zs k / 8 ≤ 1152921504606846975 := by omega
  have hq' : -1152921504606846976 ≤ hz zs k / 8 := by omega
  have h0 : 0 ≤ hz zs k % 8 := by omega
  have hcs : 5 < hz zs k % 8 ∨ (hz zs k % 8 ≤ 5 ∧ hz zs k / 8 < 2) ∨ (hz zs k % 8 ≤ 5 ∧ 2 ≤ hz zs k / 8 ∧ (zs.length : Int) < (k : Int) + hz zs k / 8) := by unfold Good at hg; omega
  clear hc hI hg
  rcases hcs with g1 | ⟨g1, g2⟩ | ⟨g1, g2, g3⟩
  all_goals (
    go_enter Tryz.func139, Tryz.ntmps139
    go_wp2_with (first | (go_at_call 73; refine (impl_value_num_ok _ _ hbd.1 hbd.2).mono ?_; rintro e wx ⟨rfl, rfl⟩) | (go_at_call 102; refine (impl_value_kind_ok _ _).mono ?_; rintro e wx ⟨rfl, rfl⟩) | (go_at_call 117; refine (blockKind_ok _ _).mono ?_; rintro e wx ⟨rfl, rfl⟩) | (go_at_call 120; refine (end_ok _ _ _ _ (by omega) (by omega)).mono ?_; rintro e wx ⟨rfl, rfl⟩))
    refine bodyPost_ret (v := .tuple #[bkV 0 0 0, .bool false]) (by simp [results, Tryz.results139, go_sem]) rfl ⟨rfl, ?_⟩
    repeat first | exact Below.refl _ _ | refine Kept.alloc ?_ _)

end Go.Proofs.YtpbafjcoomfooaaGreat
