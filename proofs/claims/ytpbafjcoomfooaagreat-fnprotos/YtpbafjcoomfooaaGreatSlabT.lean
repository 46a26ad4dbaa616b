/-
  The iterator over a slab's words (blocksOf): called with whatever loop body it yields the blocks of the slab, in their order, and reads the words as the body leaves them.
-/
import Derived.RangeFuncNested
import Derived.RangeFuncBound
import Derived.RangeFuncCalls
import Derived.RangeFuncLeaves
import Derived.Shelf.Abstract
import Derived.Shelf.RegionOpen
import Derived.WalkKit
import Derived.OwnWalkIn
import Derived.TacticsInMore
import Derived.LoopNIn
import Derived.LoopIn
import Derived.Test.YtpbafjcoomfooaaGreatSlabI
namespace Go.Proofs.YtpbafjcoomfooaaGreat
open Go.RowKit Go.Shelf
attribute [local go_sem] Oper.semAt_some

/-- What a round keeps that goes on: every block of cells but those of the caller's own variables (X), and rows of integers that were laid from nI on. -/
def KeepX (X : Nat → Prop) (nI : Nat) (W W' : World) : Prop := W.heap.size ≤ W'.heap.size ∧ ∀ k o, W.heap[k]? = some o → o.isCells = true → ¬ X k → ¬ (nI ≤ k ∧ ∃ cs fr, o = .cells cs 3 fr) → W'.heap[k]? = some o
theorem KeepX.t {X : Nat → Prop} {nI : Nat} {A B C : World} (h : KeepX X nI A B) (k : KeepX X nI B C) : KeepX X nI A C := ⟨Nat.le_trans h.1 k.1, fun j o e c x i => k.2 j o (h.2 j o e c x i) c x i⟩
theorem KeepX.b {X : Nat → Prop} {nI : Nat} (W : World) (l : Nat) (o o' : Obj) (h : W.heap[l]? = some o) (h1 : o.isCells = false) : KeepX X nI W (W.putObj l o') :=
  ⟨by simp, fun k q e c _ _ => by
    by_cases hkl : k = l
    · subst hkl; rw [h] at e; cases e; rw [h1] at c; cases c
    · rw [World.putObj_heap_other hkl]; exact e⟩
theorem KeepX.of {X : Nat → Prop} {nI : Nat} {W W' : World} (h : Kept W W') : KeepX X nI W W' := ⟨h.size, fun k _ e _ _ _ => (h.block k (Array.getElem?_eq_some_iff.1 e).1).trans e⟩
theorem KeepX.cell {X : Nat → Prop} {nI : Nat} {W W' : World} (h : KeepX X nI W W') {a : Addr} {v : Value} (hc : W.cell? a = some v) (hx : ¬ X a.block) (hi : a.block < nI) : W'.cell? a = some v := by
  obtain ⟨o, ho, hi'⟩ := cells_of_cell hc
  rw [World.cell?_of_block (w := W) ((h.2 _ _ ho hi' hx (fun x => by omega)).trans ho.symm)]
  exact hc
theorem KeepX.ints {X : Nat → Prop} {nI : Nat} {W W' : World} (h : KeepX X nI W W') {ao : Option Addr} {zs : List Int} (hI : Ints W ao zs) (hx : ∀ a, zs ≠ [] → ao = some a → ¬ X a.block ∧ a.block < nI) : Ints W' ao zs := by
  refine ⟨hI.1, ?_⟩
  rcases hI.2 with e | ⟨b, off, e, hc⟩
  · exact .inl e
  · exact .inr ⟨b, off, e, fun j hj => h.cell (hc j hj) (by have := (hx _ (by intro h; rw [h] at hj; simp at hj) e).1; exact this) (by have := (hx _ (by intro h; rw [h] at hj; simp at hj) e).2; exact this)⟩
theorem KeepX.setCell {X : Nat → Prop} {nI : Nat} {W : World} {p : Addr} (hp : X p.block) (v : Value) : KeepX X nI W (W.setCell p v) :=
  ⟨by simp [World.setCell], fun k _ e _ x _ => by rw [Below.heap_setCell W p v k (fun h => x (by rw [h]; exact hp))]; exact e⟩

theorem KeepX.set3 {X : Nat → Prop} {nI : Nat} {W : World} {B : Nat} (hp : X B) (a b c : Value) : KeepX X nI W (((W.setCell ⟨B, 0, none⟩ a).setCell ⟨B, 1, none⟩ b).setCell ⟨B, 2, none⟩ c) :=
  ((KeepX.setCell (p := ⟨B, 0, none⟩) hp a).t (KeepX.setCell (p := ⟨B, 1, none⟩) hp b)).t (KeepX.setCell (p := ⟨B, 2, none⟩) hp c)
theorem others3 {W : World} {B : Nat} (a b c : Value) : KeepsOthers W (((W.setCell ⟨B, 0, none⟩ a).setCell ⟨B, 1, none⟩ b).setCell ⟨B, 2, none⟩ c) :=
  ((KeepsOthers.setCell _ _ _).trans (KeepsOthers.setCell _ _ _)).trans (KeepsOthers.setCell _ _ _)
theorem below3 {n : Nat} {w W : World} {B : Nat} (h : Below n w W) (hB : n ≤ B) (a b c : Value) : Below n w (((W.setCell ⟨B, 0, none⟩ a).setCell ⟨B, 1, none⟩ b).setCell ⟨B, 2, none⟩ c) :=
  ((h.setCell (p := ⟨B, 0, none⟩) hB a).setCell (p := ⟨B, 1, none⟩) hB b).setCell (p := ⟨B, 2, none⟩) hB c

set_option maxRecDepth 100000 in
set_option maxHeartbeats 2000000 in
theorem blocksOf1_in (n : Nat) (hn : 1 ≤ n) (l Bs B0 nX nI : Nat) (X : Nat → Prop) (ao : Option Addr) (cap : Nat) (zs : List Int) (hL : zs.length * 8 ≤ 140737488351232) (hXa : ∀ a, zs ≠ [] → ao = some a → ¬ X a.block ∧ a.block < nI) (hXb : ¬ X Bs) (hBn : Bs < nI) (hXn : ∀ k, X k → k < nX)
    (J Jx : List (BkOf zs.length) → World → Prop) (hA : AbidesFrom B0 J)
    (hY : ∀ pre x W, J pre W → pre.length < (blocks zs).length → YieldAt Fence.wide (n - 1) Tryz.prog l #[bkV (x.1.at' : Nat) (x.1.size : Nat) (x.1.kind : Nat)] W fun e W' =>
      (e = .returned (.bool true) ∧ J (pre ++ [x]) W' ∧ KeepX X nI W W') ∨ (e = .returned (.bool false) ∧ Jx (pre ++ [x]) W'))
    (W : World) (hBs : W.cell? ⟨Bs, 0, none⟩ = some (.slice ao zs.length cap)) (hI : Ints W ao zs) (h0 : J [] W) (hnX : nX ≤ W.heap.size) :
    CallsIn Fence.wide n Tryz.prog 138 #[.func (.yield l) #[] #[], .pointer (some ⟨Bs, 0, none⟩)] W fun e W' => (∃ v, e = .returned v) ∧
      ((∃ ys, ys = blocks zs ∧ J ys W') ∨ (∃ pre, pre <+: blocks zs ∧ Jx pre W')) := by
  refine callsIn_of_wp Tryz.func138 rfl trivial ?_ rfl
  simp only [Tryz.ntmps138, List.size_toArray, List.length_cons, List.length_nil, Nat.reduceAdd, Nat.reduceSub, Array.replicate_succ, Array.replicate_zero, List.push_toArray, List.append_toArray, List.nil_append, List.cons_append]
  gi_wp2
  gi_loopw [3] (fun i wr => ∃ (k : Nat) (pre : List (BkOf zs.length)), i = .int .i64 k ∧ k ≤ zs.length ∧ pre ++ blks zs k = blocks zs ∧ J pre wr ∧ wr.cell? ⟨Bs, 0, none⟩ = some (.slice ao zs.length cap) ∧ Ints wr ao zs ∧ nX ≤ wr.heap.size)
    (fun i _ => zs.length - (intOf i).toNat)
  case atStart => exact ⟨0, [], rfl, Nat.zero_le _, rfl, h0, hBs, hI, hnX⟩
  case round =>
    obtain ⟨k, pre, rfl, hk, hpre, hJ, hBw, hIw, hnw⟩ := hrel
    clear hBs hI h0 hnX
    by_cases hlt' : k < zs.length
    · by_cases hg : Good zs k
      · have hle := hg.le
        have hs2 := hg.sz2
        gi_wp2_with (refine ⟨trivial, ?_⟩; gi_at_call 139; refine (callsIn_wide.2 (readBlock_good _ ao cap zs k hIw hg hL)).mono ?_; rintro e w1 ⟨rfl, hk1⟩; have hkA := hk1.alloc (.cells #[.int .i64 k, .int .i64 (sz zs k), .int .i64 (kd zs k)] 111); obtain ⟨fn, tmps, assign, body, hy, hR⟩ := hY pre ⟨⟨k, sz zs k, kd zs k⟩, hg.sz2, hg.le, hg.kd5⟩ _ (hA _ _ _ none hJ hkA.grown (fun _ h => by cases h)) (by rw [← hpre, blks_yes hg]; simp); dsimp only at hy)
        refine hR.mono ?_
        rintro e W3 (⟨rfl, hJ3, hk3⟩ | ⟨rfl, hJx3⟩)
        · have hnew := World.alloc_heap_new w1 (.cells #[.int .i64 k, .int .i64 (sz zs k), .int .i64 (kd zs k)] 111)
          have hb3 := hk3.2 _ _ hnew rfl (fun h => by have := hXn _ h; have := hk1.size; omega) (fun h => by obtain ⟨_, cs, fr, e⟩ := h; simp at e)
          have c0 : W3.cell? ⟨w1.heap.size, 0, none⟩ = some (.int .i64 k) := by simp [World.cell?, hb3]
          have c1 : W3.cell? ⟨w1.heap.size, 1, none⟩ = some (.int .i64 (sz zs k)) := by simp [World.cell?, hb3]
          have c2 : W3.cell? ⟨w1.heap.size, 2, none⟩ = some (.int .i64 (kd zs k)) := by simp [World.cell?, hb3]
          have hcB : W3.cell? ⟨Bs, 0, none⟩ = some (.slice ao zs.length cap) := hk3.cell ((hkA.cell (p := ⟨Bs, 0, none⟩) (World.block_lt_of_cell? _ _ hBw)).trans hBw) hXb hBn
          have hI3 := hk3.ints (hIw.kept hkA) hXa
          have hn3 : nX ≤ W3.heap.size := Nat.le_trans hnw (Nat.le_trans hkA.size hk3.1)
          clear hR hy hb3 hnew hY
          gi_wp2_with (refine ⟨trivial, ?_⟩; gi_at_call 120; refine (callsIn_wide.2 (end_ok _ _ _ _ (by omega) (by omega))).mono ?_; rintro e w4 ⟨rfl, rfl⟩)
          go_roundw
          case rel => exact ⟨k + sz zs k, _, by go_num, hle, by rw [← hpre, blks_yes hg]; simp, hA _ _ _ none hJ3 (World.grownBy_alloc _ _ _) (fun _ h => by cases h), (Kept.alloc (Below.refl _ _) _).cell (p := ⟨Bs, 0, none⟩) (World.block_lt_of_cell? _ _ hcB) |>.trans hcB, hI3.kept (Kept.alloc (Below.refl _ _) _), by simp; omega⟩
          case measure => simp [intOf]; omega
        · gi_wp2
          refine bodyPost_ret (results_none rfl _ _ _) rfl ?_
          exact ⟨⟨_, rfl⟩, .inr ⟨_, by rw [← hpre, blks_yes hg]; exact ⟨blks zs (k + sz zs k), by simp⟩, hJx3⟩⟩
      · gi_wp2_with (refine ⟨trivial, ?_⟩; gi_at_call 139; refine (callsIn_wide.2 (readBlock_bad _ ao cap zs k hIw hlt' hg hL)).mono ?_; rintro e w1 ⟨rfl, hk1⟩)
        refine ⟨fun _ _ => trivial, ?_⟩
        gi_wp2
        refine bodyPost_ret (results_none rfl _ _ _) rfl ?_
        exact ⟨⟨_, rfl⟩, .inl ⟨pre, by rw [← hpre, blks_no hg]; simp, hA _ _ _ none hJ (hk1.alloc _).grown (fun _ h => by cases h)⟩⟩
    · obtain rfl : k = zs.length := by omega
      gi_wp2
      go_end0
      exact ⟨⟨_, rfl⟩, .inl ⟨pre, by rw [← hpre, blks_no (fun h => hlt' h.lt)]; simp, hJ⟩⟩

end Go.Proofs.YtpbafjcoomfooaaGreat
