/-
  spec.SweepStep, at a right marker of phase 2.
  spec.SweepStep, at a right marker that is not of phase 2.
  The contract of spec.SweepStep.
  What is told of the operations of a drawn region: two calls, one behind the other, and two boxes for what the second one tells.
  How long the lists of a marker are behind MarkStep and Start.
  The contract of spec.Sweep.
  The contract of spec.Collect.
  The contract of spec.Tidy: it tells a slab and roots of one's own, not longer than those that came in.
-/
import Derived.Test.YtgnpllpinfhccaaGreatDoorGrpV
import Derived.Test.YtgnpllpinfhccaaGreatDoorGrpR
import Derived.Test.YtgnpllpinfhccaaGreatDoorGrpO
namespace Go.Proofs.YtgnpllpinfhccaaGreatDoor
open Go.RowKit
attribute [local go_sem] Plain.and7
set_option linter.unusedSimpArgs false
theorem own_ints {W : World} {base n c : Nat} {ao : Option Addr} {l : List Int} (h : OwnL W base (.slice ao n c) l) : Ints W ao l := by
  obtain ⟨so, sc, e, hi⟩ := h.ints
  injection e with e1
  subst e1
  exact hi
theorem own_ne {W : World} {base n c g : Nat} {ao : Option Addr} {l : List Int} (h : OwnL W base (.slice ao n c) l) (hg : g < base) : ∀ x, ao = some x → x.block ≠ g := by
  rintro x rfl
  have := (h.2.lt x.block (by simp [Value.ownBlock])).1
  omega

def swpT (wd : World) (zs gs bs : List Int) (a : Nat) (n : Int) (sv mv : Value) : Told where
  B u := Kept wd u
  R j vs u := match j with
    | 0 => vs 0 = sv
    | 1 => ∃ g c, vs 1 = .agg #[.slice (some ⟨g, 0, none⟩) zs.length c] ∧ wd.heap.size ≤ g ∧ zs.length ≤ c ∧ Row u g zs
    | 2 => vs 2 = mv
    | 3 => ∃ g c b3, vs 1 = .agg #[.slice (some ⟨g, 0, none⟩) zs.length c] ∧ wd.heap.size ≤ g ∧ g < b3 ∧ MkO u b3 (vs 3) 2 gs bs (a : Nat)
    | 4 => vs 4 = .int .i64 n
    | 5 => ∃ va vn vc m, vs 5 = .tuple #[.agg #[.slice va vn vc], m] ∧ OwnR u wd.heap.size (.slice va vn vc) (swpC zs 2 gs bs (a : Nat) n).1 ∧ MkO u wd.heap.size m (swpC zs 2 gs bs (a : Nat) n).2.1 (swpC zs 2 gs bs (a : Nat) n).2.2.1 (swpC zs 2 gs bs (a : Nat) n).2.2.2.1 (swpC zs 2 gs bs (a : Nat) n).2.2.2.2
    | 6 => ∃ va vn vc m, vs 5 = .tuple #[.agg #[.slice va vn vc], m] ∧ vs 6 = .tuple #[.agg #[.slice va vn vc], m]
    | 7 => ∃ va vn vc m, vs 6 = .tuple #[.agg #[.slice va vn vc], m] ∧ vs 7 = .agg #[.slice va vn vc]
    | 8 => ∃ va vn vc m, vs 6 = .tuple #[.agg #[.slice va vn vc], m] ∧ vs 8 = m
    | 9 => ∃ A, vs 9 = .pointer (some ⟨A, 0, none⟩) ∧ wd.heap.size ≤ A ∧ Cells u A 26 #[.slice none 0 0]
    | 10 => ∃ A, vs 10 = .pointer (some ⟨A, 0, none⟩) ∧ wd.heap.size ≤ A ∧ Cells u A 101 #[.int .i64 0, .slice none 0 0, .slice none 0 0, .int .i64 0]
    | 11 => ∃ A va vn vc, vs 9 = .pointer (some ⟨A, 0, none⟩) ∧ vs 7 = .agg #[.slice va vn vc] ∧ wd.heap.size ≤ A ∧ Cells u A 26 #[.slice va vn vc]
    | _ => True
def swpD (i j : Nat) : Bool := (i == 5 && (j == 1 || j == 3)) || (i == 11 && (j == 1 || j == 3 || j == 9))
theorem OwnR.keptK {W W' : World} {base : Nat} {v : Value} {l : List Int} (h : OwnR W base v l) (hk : Kept W W') : OwnR W' base v l := by
  rcases h with h | ⟨g, c, e, hb, hc, hr⟩
  · exact .inl h
  · exact .inr ⟨g, c, e, hb, hc, hr.kept hk⟩
theorem swpT_kept {wd u u' : World} {zs gs bs : List Int} {a : Nat} {n : Int} {sv mv : Value} (hk : Kept u u') (j : Nat) (vs : Nat → Value) (h : (swpT wd zs gs bs a n sv mv).R j vs u) : (swpT wd zs gs bs a n sv mv).R j vs u' := by
  match j, h with
  | 0, h => exact h
  | 1, h => obtain ⟨g, c, e, h1, h2, h3⟩ := h; exact ⟨g, c, e, h1, h2, h3.kept hk⟩
  | 2, h => exact h
  | 3, h => obtain ⟨g, c, b, e, h1, h2, h3⟩ := h; exact ⟨g, c, b, e, h1, h2, h3.kept hk⟩
  | 4, h => exact h
  | 5, h => obtain ⟨va, vn, vc, m, e, h1, h2⟩ := h; exact ⟨va, vn, vc, m, e, h1.keptK hk, h2.kept hk⟩
  | 6, h => exact h
  | 7, h => exact h
  | 8, h => exact h
  | 9, h => obtain ⟨A, e, h1, h2⟩ := h; exact ⟨A, e, h1, h2.kept hk⟩
  | 10, h => obtain ⟨A, e, h1, h2⟩ := h; exact ⟨A, e, h1, h2.kept hk⟩
  | 11, h => obtain ⟨A, va, vn, vc, e, e', h1, h2⟩ := h; exact ⟨A, va, vn, vc, e, e', h1, h2.kept hk⟩
  | _ + 12, _ => exact trivial
theorem swpT_own {ops : Array Oper} {wd : World} {zs gs bs : List Int} {a : Nat} {n : Int} {sv mv : Value} (h31 : depOk ops 3 1 = true) (h65 : depOk ops 6 5 = true) (h76 : depOk ops 7 6 = true) (h86 : depOk ops 8 6 = true) (h119 : depOk ops 11 9 = true) (h117 : depOk ops 11 7 = true) : (swpT wd zs gs bs a n sv mv).own ops := by
  intro j vs vs' u h hR
  match j, h, hR with
  | 0, h, hR => show vs' 0 = _; rw [← h 0 (.inl rfl)]; exact hR
  | 1, h, hR => show ∃ g c, vs' 1 = _ ∧ _; rw [← h 1 (.inl rfl)]; exact hR
  | 2, h, hR => show vs' 2 = _; rw [← h 2 (.inl rfl)]; exact hR
  | 3, h, hR => show ∃ g c b3, vs' 1 = _ ∧ _ ∧ _ ∧ MkO u b3 (vs' 3) _ _ _ _; rw [← h 1 (.inr h31), ← h 3 (.inl rfl)]; exact hR
  | 4, h, hR => show vs' 4 = _; rw [← h 4 (.inl rfl)]; exact hR
  | 5, h, hR => show ∃ va vn vc m, vs' 5 = _ ∧ _; rw [← h 5 (.inl rfl)]; exact hR
  | 6, h, hR => show ∃ va vn vc m, vs' 5 = _ ∧ vs' 6 = _; rw [← h 5 (.inr h65), ← h 6 (.inl rfl)]; exact hR
  | 7, h, hR => show ∃ va vn vc m, vs' 6 = _ ∧ vs' 7 = _; rw [← h 6 (.inr h76), ← h 7 (.inl rfl)]; exact hR
  | 8, h, hR => show ∃ va vn vc m, vs' 6 = _ ∧ vs' 8 = _; rw [← h 6 (.inr h86), ← h 8 (.inl rfl)]; exact hR
  | 9, h, hR => show ∃ A, vs' 9 = _ ∧ _; rw [← h 9 (.inl rfl)]; exact hR
  | 10, h, hR => show ∃ A, vs' 10 = _ ∧ _; rw [← h 10 (.inl rfl)]; exact hR
  | 11, h, hR => show ∃ A va vn vc, vs' 9 = _ ∧ vs' 7 = _ ∧ _; rw [← h 9 (.inr h119), ← h 7 (.inr h117)]; exact hR
  | _ + 12, _, _ => exact trivial
theorem swpT_nine {ops : Array Oper} {wd u u' : World} {zs gs bs : List Int} {a : Nat} {n : Int} {sv mv : Value} {g : Nat} (hg : Row u g zs) (hG : GS g u u') (h11 : depOk ops 11 5 = true) (j : Nat) (vs : Nat → Value) (hj : j ≠ 5) (hd : depOk ops j 5 = false) (hD : swpD 5 j = false) (h : (swpT wd zs gs bs a n sv mv).R j vs u) : (swpT wd zs gs bs a n sv mv).R j vs u' := by
  match j, hj, hd, hD, h with
  | 0, _, _, _, h => exact h
  | 1, _, _, hD, _ => exact absurd hD (by decide)
  | 2, _, _, _, h => exact h
  | 3, _, _, hD, _ => exact absurd hD (by decide)
  | 4, _, _, _, h => exact h
  | 5, hj, _, _, _ => exact absurd rfl hj
  | 6, _, _, _, h => exact h
  | 7, _, _, _, h => exact h
  | 8, _, _, _, h => exact h
  | 9, _, _, _, h => obtain ⟨A, e, h1, h2⟩ := h; exact ⟨A, e, h1, h2.grown hG.1 (by intro e; injection e with e; subst e; exact hg.notCells h2 (by decide) rfl)⟩
  | 10, _, _, _, h => obtain ⟨A, e, h1, h2⟩ := h; exact ⟨A, e, h1, h2.grown hG.1 (by intro e; injection e with e; subst e; exact hg.notCells h2 (by decide) rfl)⟩
  | 11, _, hd, _, _ => rw [h11] at hd; cases hd
  | _ + 12, _, _, _, _ => exact trivial
theorem box_ne {W : World} {A B : Nat} {t t' : TypeId} {cs cs' : Array Value} (h : Cells W A t cs) (h' : Cells W B t' cs') (ht : t ≠ t') : A ≠ B := by
  rintro rfl
  have h2 : W.heap[A]? = some _ := h'
  rw [show W.heap[A]? = some _ from h] at h2
  simp at h2
  exact ht h2.2
theorem box4 {w u : World} {A B : Nat} {v0 : Value} (hA : Cells u A 26 #[v0]) (hB : Cells u B 101 #[.int .i64 0, .slice none 0 0, .slice none 0 0, .int .i64 0]) (r : Cells u (w.heap.size + 1 + 1) 26 #[.slice none 0 0]) (q : Cells u (w.heap.size + 1 + 1 + 1) 101 #[.int .i64 0, .slice none 0 0, .slice none 0 0, .int .i64 0]) (k : Kept w u) (hb4 : w.heap.size + 4 ≤ B) (v1 v2 v3 v4 : Value) :
    Kept w ((((u.setCell ⟨B, 0, none⟩ v1).setCell ⟨B, 1, none⟩ v2).setCell ⟨B, 2, none⟩ v3).setCell ⟨B, 3, none⟩ v4) ∧ Cells ((((u.setCell ⟨B, 0, none⟩ v1).setCell ⟨B, 1, none⟩ v2).setCell ⟨B, 2, none⟩ v3).setCell ⟨B, 3, none⟩ v4) (w.heap.size + 1 + 1) 26 #[.slice none 0 0] ∧ Cells ((((u.setCell ⟨B, 0, none⟩ v1).setCell ⟨B, 1, none⟩ v2).setCell ⟨B, 2, none⟩ v3).setCell ⟨B, 3, none⟩ v4) (w.heap.size + 1 + 1 + 1) 101 #[.int .i64 0, .slice none 0 0, .slice none 0 0, .int .i64 0] ∧ Cells ((((u.setCell ⟨B, 0, none⟩ v1).setCell ⟨B, 1, none⟩ v2).setCell ⟨B, 2, none⟩ v3).setCell ⟨B, 3, none⟩ v4) A 26 #[v0] ∧ Cells ((((u.setCell ⟨B, 0, none⟩ v1).setCell ⟨B, 1, none⟩ v2).setCell ⟨B, 2, none⟩ v3).setCell ⟨B, 3, none⟩ v4) B 101 #[v1, v2, v3, v4] ∧ (∀ base v l, OwnR u base v l → OwnR ((((u.setCell ⟨B, 0, none⟩ v1).setCell ⟨B, 1, none⟩ v2).setCell ⟨B, 2, none⟩ v3).setCell ⟨B, 3, none⟩ v4) base v l) ∧ (∀ base m ph gs bs at', MkO u base m ph gs bs at' → MkO ((((u.setCell ⟨B, 0, none⟩ v1).setCell ⟨B, 1, none⟩ v2).setCell ⟨B, 2, none⟩ v3).setCell ⟨B, 3, none⟩ v4) base m ph gs bs at') := by
  have hab : A ≠ B := box_ne hA hB (by decide)
  refine ⟨(((k.set (by simp; omega) _).set (by simp; omega) _).set (by simp; omega) _).set (by simp; omega) _,
    (((r.other (by simp; omega) _).other (by simp; omega) _).other (by simp; omega) _).other (by simp; omega) _,
    (((q.other (by simp; omega) _).other (by simp; omega) _).other (by simp; omega) _).other (by simp; omega) _,
    (((hA.other (by simpa using hab) _).other (by simpa using hab) _).other (by simpa using hab) _).other (by simpa using hab) _,
    hB.four v1 v2 v3 v4, fun base v l h => ?_, fun base m ph gs bs at' h => ?_⟩
  · exact (((h.apart hB (by decide)).apart (hB.set 0 v1) (by decide)).apart ((hB.set 0 v1).set 1 v2) (by decide)).apart (((hB.set 0 v1).set 1 v2).set 2 v3) (by decide)
  · exact (((h.apart hB (by decide)).apart (hB.set 0 v1) (by decide)).apart ((hB.set 0 v1).set 1 v2) (by decide)).apart (((hB.set 0 v1).set 1 v2).set 2 v3) (by decide)
theorem swpT_store {wd u : World} {zs gs bs : List Int} {a : Nat} {n : Int} {sv mv v : Value} {A : Nat} (hA : Cells u A 26 #[.slice none 0 0]) (j : Nat) (vs : Nat → Value) (hj : j ≠ 11) (hD : swpD 11 j = false) (h : (swpT wd zs gs bs a n sv mv).R j vs u) : (swpT wd zs gs bs a n sv mv).R j vs (u.setCell ⟨A, 0, none⟩ v) := by
  match j, hj, hD, h with
  | 0, _, _, h => exact h
  | 1, _, hD, _ => exact absurd hD (by decide)
  | 2, _, _, h => exact h
  | 3, _, hD, _ => exact absurd hD (by decide)
  | 4, _, _, h => exact h
  | 5, _, _, h => obtain ⟨va, vn, vc, m, e, h1, h2⟩ := h; exact ⟨va, vn, vc, m, e, h1.apart hA (by decide), h2.apart hA (by decide)⟩
  | 6, _, _, h => exact h
  | 7, _, _, h => exact h
  | 8, _, _, h => exact h
  | 9, _, hD, _ => exact absurd hD (by decide)
  | 10, _, _, h => obtain ⟨B, e, h1, h2⟩ := h; exact ⟨B, e, h1, h2.other (p := ⟨A, 0, none⟩) (fun e => box_ne hA h2 (by decide) (by simpa using Eq.symm e)) v⟩
  | 11, hj, _, _ => exact absurd rfl hj
  | _ + 12, _, _, _ => exact trivial
set_option maxHeartbeats 32000000 in
set_option maxRecDepth 100000 in
theorem sweepStep_two (w : World) (b1' b2' : Nat) (ao ga ba : Option Addr) (cap gc bc : Nat) (zs gs bs : List Int) (ph at' n : Int) (hI : Ints w ao zs) (hl : zs.length ≤ 1048576) (hg : OwnL w b1' (.slice ga gs.length gc) gs) (hb : OwnL w b2' (.slice ba bs.length bc) bs) (hgl : gs.length ≤ 1048576) (hbl : bs.length ≤ 1048576) (hn : n ≤ 9223372036854775807) (hmk : markR zs ph gs bs at' = true) (hph : ph = 2) :
    Calls Tryz.prog 125 #[.agg #[.slice ao zs.length cap], .agg #[.int .i64 ph, .slice ga gs.length gc, .slice ba bs.length bc, .int .i64 at'], .int .i64 n] w fun e w' => ∃ v m, e = .returned (.tuple #[.agg #[v], m]) ∧ OwnR w' w.heap.size v (swpC zs ph gs bs at' n).1 ∧ MkO w' w.heap.size m (swpC zs ph gs bs at' n).2.1 (swpC zs ph gs bs at' n).2.2.1 (swpC zs ph gs bs at' n).2.2.2.1 (swpC zs ph gs bs at' n).2.2.2.2 ∧ Kept w w' := by
  have x0 := (((Cells.new w 26 #[.slice ao zs.length cap]).alloc (.cells #[.int .i64 ph, .slice ga gs.length gc, .slice ba bs.length bc, .int .i64 at'] 101)).alloc (.cells #[.slice none 0 0] 26)).alloc (.cells #[.int .i64 0, .slice none 0 0, .slice none 0 0, .int .i64 0] 101)
  have x1 := ((Cells.new (w.alloc (.cells #[.slice ao zs.length cap] 26)) 101 #[.int .i64 ph, .slice ga gs.length gc, .slice ba bs.length bc, .int .i64 at']).alloc (.cells #[.slice none 0 0] 26)).alloc (.cells #[.int .i64 0, .slice none 0 0, .slice none 0 0, .int .i64 0] 101)
  have x2 := (Cells.new ((w.alloc (.cells #[.slice ao zs.length cap] 26)).alloc (.cells #[.int .i64 ph, .slice ga gs.length gc, .slice ba bs.length bc, .int .i64 at'] 101)) 26 #[.slice none 0 0]).alloc (.cells #[.int .i64 0, .slice none 0 0, .slice none 0 0, .int .i64 0] 101)
  have x3 := Cells.new (((w.alloc (.cells #[.slice ao zs.length cap] 26)).alloc (.cells #[.int .i64 ph, .slice ga gs.length gc, .slice ba bs.length bc, .int .i64 at'] 101)).alloc (.cells #[.slice none 0 0] 26)) 101 #[.int .i64 0, .slice none 0 0, .slice none 0 0, .int .i64 0]
  simp only [World.size_alloc] at x1 x2 x3
  have k0 : Kept w ((((w.alloc (.cells #[.slice ao zs.length cap] 26)).alloc (.cells #[.int .i64 ph, .slice ga gs.length gc, .slice ba bs.length bc, .int .i64 at'] 101)).alloc (.cells #[.slice none 0 0] 26)).alloc (.cells #[.int .i64 0, .slice none 0 0, .slice none 0 0, .int .i64 0] 101)) := (((Kept.alloc (Below.refl _ _) _).alloc _).alloc _).alloc _
  have hs0 : ((((w.alloc (.cells #[.slice ao zs.length cap] 26)).alloc (.cells #[.int .i64 ph, .slice ga gs.length gc, .slice ba bs.length bc, .int .i64 at'] 101)).alloc (.cells #[.slice none 0 0] 26)).alloc (.cells #[.int .i64 0, .slice none 0 0, .slice none 0 0, .int .i64 0] 101)).heap.size = w.heap.size + 4 := by simp
  have hm := MkI.of hg hb hgl hbl
  have hMk := spec_MarkerOk_ok _ ao ga ba cap gc bc zs gs bs ph at' (hI.kept k0) hl (hm.kept k0)
  have HIs : Hid (∀ u, Kept w u → Ints u ao zs) := fun u hu => hI.kept hu
  have HC8 : Hid _ := fun (u : World) (hu : Kept w u) => l8Copy_ok u b1' b2' ph at' ga ba gc bc gs bs (hg.kept (row := none) hu.grown (fun _ e => by cases e)) (hb.kept (row := none) hu.grown (fun _ e => by cases e)) hgl hbl
  have HC2 : Hid _ := fun (u : World) (hu : Kept w u) => l2Copy_ok u ao cap zs (hI.kept hu) hl
  have c00 := x0.cell 0
  have c10 := x1.cell 0
  have c11 := x1.cell 1
  have c12 := x1.cell 2
  have c13 := x1.cell 3
  have HS0 : Hid (∀ u, Kept ((((w.alloc (.cells #[.slice ao zs.length cap] 26)).alloc (.cells #[.int .i64 ph, .slice ga gs.length gc, .slice ba bs.length bc, .int .i64 at'] 101)).alloc (.cells #[.slice none 0 0] 26)).alloc (.cells #[.int .i64 0, .slice none 0 0, .slice none 0 0, .int .i64 0] 101)) u → (u.cell? ⟨w.heap.size, 0, none⟩ = some (.slice ao zs.length cap) ∧ u.cell? ⟨w.heap.size + 1, 0, none⟩ = some (.int .i64 ph) ∧ u.cell? ⟨w.heap.size + 1, 1, none⟩ = some (.slice ga gs.length gc) ∧ u.cell? ⟨w.heap.size + 1, 2, none⟩ = some (.slice ba bs.length bc) ∧ u.cell? ⟨w.heap.size + 1, 3, none⟩ = some (.int .i64 at')) ∧ Cells u (w.heap.size + 1 + 1) 26 #[.slice none 0 0] ∧ Cells u (w.heap.size + 1 + 1 + 1) 101 #[.int .i64 0, .slice none 0 0, .slice none 0 0, .int .i64 0] ∧ Kept w u ∧ w.heap.size + 4 ≤ u.heap.size) := fun u hu => ⟨⟨(x0.kept hu).cell 0, (x1.kept hu).cell 0, (x1.kept hu).cell 1, (x1.kept hu).cell 2, (x1.kept hu).cell 3⟩, x2.kept hu, x3.kept hu, k0.trans hu, by have := hu.size; rw [hs0] at this; exact this⟩
  clear hI hg hb hm x0 x1 x2 x3 hs0
  subst hph
  obtain ⟨hok, hgs0, a, hat, hB⟩ := mark_two hmk
  subst hat
  have HMK : Hid _ := hmk
  have HOK : Hid _ := hok
  have HBN : Hid _ := hB
  rw [hmk] at hMk
  clear hmk hok hB hgs0
  go_enter Tryz.func125, Tryz.ntmps125
  go_upto_region 5 with (first | (go_at_call 165; refine hMk.mono ?_; rintro e w1 ⟨rfl, hk1⟩; obtain ⟨⟨d0, d1, d2, d3, d4⟩, _, _, K1, hs1⟩ := HS0.out _ hk1))
  have kd : Kept w1 w1.drew := (Below.refl _ w1).drew
  clear d0 d1 d2 d3 d4 c00 c10 c11 c12 c13
  go_wp2_with fail
  refine wp_region_told 12 (swpT w1.drew zs gs bs a n (.agg #[.slice ao zs.length cap]) (.agg #[.int .i64 2, .slice ga gs.length gc, .slice ba bs.length bc, .int .i64 (a : Nat)])) swpD (by kernel_rfl) (by kernel_rfl) (by decide) (by kernel_rfl) (by kernel_rfl) (swpT_own (by kernel_rfl) (by kernel_rfl) (by kernel_rfl) (by kernel_rfl) (by kernel_rfl) (by kernel_rfl)) (Below.refl _ _) ?_ ?_
  · intro i hi vs
    rcases (show i = 0 ∨ i = 1 ∨ i = 2 ∨ i = 3 ∨ i = 4 ∨ i = 5 ∨ i = 6 ∨ i = 7 ∨ i = 8 ∨ i = 9 ∨ i = 10 ∨ i = 11 by omega) with rfl | rfl | rfl | rfl | rfl | rfl | rfl | rfl | rfl | rfl | rfl | rfl
    · refine ⟨_, rfl, fun u hu hd => .inl ⟨(.agg #[.slice ao zs.length cap]), u, ?_, hu, by simp [swpT, vsX], (fun j _ _ _ h => h)⟩⟩
      obtain ⟨⟨d0, d1, d2, d3, d4⟩, _, _, Ku, hsu⟩ := HS0.out _ ((hk1.trans kd).trans hu)
      simp only [frR, dstAt, List.getElem?_toArray, List.getElem?_cons_zero, List.getElem?_cons_succ, Option.bind_some, Act.put, List.setIfInBounds_toArray, List.set_cons_zero, List.set_cons_succ]; go_simp; first | done | exact rfl
    · refine ⟨_, rfl, fun u hu hd => .inr (.inl ⟨29, #[(.agg #[.slice ao zs.length cap])], ?_, ?_⟩)⟩
      · have e0 : vs 0 = (.agg #[.slice ao zs.length cap]) := hd 0 (by kernel_rfl)
        simp only [frR, dstAt, List.getElem?_toArray, List.getElem?_cons_zero, List.getElem?_cons_succ, Option.bind_some, Act.put, List.setIfInBounds_toArray, List.set_cons_zero, List.set_cons_succ]; simp only [e0]; go_simp; first | done | exact rfl
      · obtain ⟨⟨d0, d1, d2, d3, d4⟩, _, _, Ku, hsu⟩ := HS0.out _ ((hk1.trans kd).trans hu)
        refine (HC2.out _ Ku).mono ?_
        rintro e w2 ⟨g2', c2', rfl, hg2, hc2, hR2, hk2, hz2⟩
        exact ⟨_, rfl, hu.trans hk2, ⟨g2', c2', by simp [vsX], by have := hu.size; omega, hc2, hR2⟩, (fun j _ _ _ h => swpT_kept hk2 j vs h)⟩
    · refine ⟨_, rfl, fun u hu hd => .inl ⟨(.agg #[.int .i64 2, .slice ga gs.length gc, .slice ba bs.length bc, .int .i64 (a : Nat)]), u, ?_, hu, by simp [swpT, vsX], (fun j _ _ _ h => h)⟩⟩
      obtain ⟨⟨d0, d1, d2, d3, d4⟩, _, _, Ku, hsu⟩ := HS0.out _ ((hk1.trans kd).trans hu)
      simp only [frR, dstAt, List.getElem?_toArray, List.getElem?_cons_zero, List.getElem?_cons_succ, Option.bind_some, Act.put, List.setIfInBounds_toArray, List.set_cons_zero, List.set_cons_succ]; go_simp; first | done | exact rfl
    · refine ⟨_, rfl, fun u hu hd => .inr (.inl ⟨166, #[(.agg #[.int .i64 2, .slice ga gs.length gc, .slice ba bs.length bc, .int .i64 (a : Nat)])], ?_, ?_⟩)⟩
      · have e2 : vs 2 = (.agg #[.int .i64 2, .slice ga gs.length gc, .slice ba bs.length bc, .int .i64 (a : Nat)]) := hd 2 (by kernel_rfl)
        simp only [frR, dstAt, List.getElem?_toArray, List.getElem?_cons_zero, List.getElem?_cons_succ, Option.bind_some, Act.put, List.setIfInBounds_toArray, List.set_cons_zero, List.set_cons_succ]; simp only [e2]; go_simp; first | done | exact rfl
      · obtain ⟨⟨d0, d1, d2, d3, d4⟩, _, _, Ku, hsu⟩ := HS0.out _ ((hk1.trans kd).trans hu)
        obtain ⟨g1, c1, e1, hg1, hc1, hR1⟩ : ∃ g c, vs 1 = .agg #[.slice (some ⟨g, 0, none⟩) zs.length c] ∧ w1.drew.heap.size ≤ g ∧ zs.length ≤ c ∧ Row u g zs := hd 1 (by kernel_rfl)
        refine (HC8.out _ Ku).mono ?_
        rintro e w3 ⟨m3, rfl, hM3, hk3⟩
        exact ⟨_, rfl, hu.trans hk3, ⟨g1, c1, u.heap.size, by simp [vsX, e1], hg1, hR1.lt, by simpa [vsX] using hM3⟩, (fun j _ _ _ h => swpT_kept hk3 j vs h)⟩
    · refine ⟨_, rfl, fun u hu hd => .inl ⟨.int .i64 n, u, ?_, hu, by simp [swpT, vsX], (fun j _ _ _ h => h)⟩⟩
      simp only [frR, dstAt, List.getElem?_toArray, List.getElem?_cons_zero, List.getElem?_cons_succ, Option.bind_some, Act.put, List.setIfInBounds_toArray, List.set_cons_zero, List.set_cons_succ]; go_simp; first | done | exact rfl
    · refine ⟨_, rfl, fun u hu hd => ?_⟩
      obtain ⟨g1, c1, e1, hg1, hc1, hR1⟩ : ∃ g c, vs 1 = .agg #[.slice (some ⟨g, 0, none⟩) zs.length c] ∧ w1.drew.heap.size ≤ g ∧ zs.length ≤ c ∧ Row u g zs := hd 1 (by kernel_rfl)
      obtain ⟨g3, c3, b3, e13, hg3, hgb, hM3⟩ : ∃ g c b3, vs 1 = .agg #[.slice (some ⟨g, 0, none⟩) zs.length c] ∧ w1.drew.heap.size ≤ g ∧ g < b3 ∧ MkO u b3 (vs 3) 2 gs bs (a : Nat) := hd 3 (by kernel_rfl)
      have e4 : vs 4 = .int .i64 n := hd 4 (by kernel_rfl)
      rw [e1] at e13
      injection e13 with e13
      simp at e13
      obtain ⟨rfl, rfl⟩ := e13
      obtain ⟨ga2, ba2, gc2, bc2, e3, og2, ob2, hn2, _, _⟩ := mkO_two' hM3
      rw [e3] at hM3
      refine .inr (.inl ⟨167, #[.agg #[.slice (some ⟨g1, 0, none⟩) zs.length c1], .agg #[.int .i64 2, .slice ga2 gs.length gc2, .slice ba2 bs.length bc2, .int .i64 (a : Nat)], .int .i64 n], ?_, ?_⟩)
      · simp only [frR, dstAt, List.getElem?_toArray, List.getElem?_cons_zero, List.getElem?_cons_succ, Option.bind_some, Act.put, List.setIfInBounds_toArray, List.set_cons_zero, List.set_cons_succ]; simp only [e1, e3, e4]; go_simp; first | done | exact rfl
      · refine (l9Step_ok _ g1 c1 zs ga2 gs.length gc2 ba2 bc2 bs a n hR1 HOK.out HBN.out (own_ints ob2) hbl (own_ne ob2 hgb) hn).mono ?_
        rintro e w4 ⟨rfl, hR4, hG4⟩
        obtain ⟨ph9, ga9, n9, gc9, ba9, m9, bc9, at9, E9, M9⟩ := nine_res (n := n) HMK.out hM3 hgb hG4
        refine ⟨_, rfl, hu.grownRow hG4.1 (fun k e => by injection e with e; omega), ⟨_, _, _, _, if_pos rfl, .inr ⟨g1, c1, by rw [swpC_one HMK.out, sweepL_len], hg1, by rw [swpC_one HMK.out, sweepL_len]; exact hc1, by rw [swpC_one HMK.out]; exact hR4⟩, by rw [E9]; exact M9.base (by omega)⟩, fun j hj hdj hD h => swpT_nine hR1 hG4 (by kernel_rfl) j vs hj hdj hD h⟩
    · refine ⟨_, rfl, fun u hu hd => ?_⟩
      obtain ⟨va, vn, vc, m, e5, _, _⟩ : ∃ va vn vc m, vs 5 = .tuple #[.agg #[.slice va vn vc], m] ∧ OwnR u w1.drew.heap.size (.slice va vn vc) _ ∧ MkO u w1.drew.heap.size m _ _ _ _ := hd 5 (by kernel_rfl)
      refine .inl ⟨.tuple #[.agg #[.slice va vn vc], m], u, ?_, hu, ⟨va, vn, vc, m, by simp [vsX, e5], by simp [vsX]⟩, (fun j _ _ _ h => h)⟩
      simp only [frR, dstAt, List.getElem?_toArray, List.getElem?_cons_zero, List.getElem?_cons_succ, Option.bind_some, Act.put, List.setIfInBounds_toArray, List.set_cons_zero, List.set_cons_succ]; simp only [e5]; go_simp; first | done | exact rfl
    · refine ⟨_, rfl, fun u hu hd => ?_⟩
      obtain ⟨va, vn, vc, m, _, e6⟩ : ∃ va vn vc m, vs 5 = .tuple #[.agg #[.slice va vn vc], m] ∧ vs 6 = .tuple #[.agg #[.slice va vn vc], m] := hd 6 (by kernel_rfl)
      refine .inl ⟨.agg #[.slice va vn vc], u, ?_, hu, ⟨va, vn, vc, m, by simp [vsX, e6], by simp [vsX]⟩, (fun j _ _ _ h => h)⟩
      simp only [frR, dstAt, List.getElem?_toArray, List.getElem?_cons_zero, List.getElem?_cons_succ, Option.bind_some, Act.put, List.setIfInBounds_toArray, List.set_cons_zero, List.set_cons_succ]; simp only [e6]; go_simp; first | done | exact rfl
    · refine ⟨_, rfl, fun u hu hd => ?_⟩
      obtain ⟨va, vn, vc, m, _, e6⟩ : ∃ va vn vc m, vs 5 = .tuple #[.agg #[.slice va vn vc], m] ∧ vs 6 = .tuple #[.agg #[.slice va vn vc], m] := hd 6 (by kernel_rfl)
      refine .inl ⟨m, u, ?_, hu, ⟨va, vn, vc, m, by simp [vsX, e6], by simp [vsX]⟩, (fun j _ _ _ h => h)⟩
      simp only [frR, dstAt, List.getElem?_toArray, List.getElem?_cons_zero, List.getElem?_cons_succ, Option.bind_some, Act.put, List.setIfInBounds_toArray, List.set_cons_zero, List.set_cons_succ]; simp only [e6]; go_simp; first | done | exact rfl
    · refine ⟨_, rfl, fun u hu hd => .inl ⟨.pointer (some ⟨u.heap.size, 0, none⟩), u.alloc (.cells #[.slice none 0 0] 26), ?_, Kept.alloc hu _, ⟨u.heap.size, by simp [vsX], hu.size, Cells.new _ _ _⟩, (fun j _ _ _ h => swpT_kept (Kept.alloc (Below.refl _ _) _) j vs h)⟩⟩
      simp only [frR, dstAt, List.getElem?_toArray, List.getElem?_cons_zero, List.getElem?_cons_succ, Option.bind_some, Act.put, List.setIfInBounds_toArray, List.set_cons_zero, List.set_cons_succ]; go_simp; first | done | exact rfl
    · refine ⟨_, rfl, fun u hu hd => .inl ⟨.pointer (some ⟨u.heap.size, 0, none⟩), u.alloc (.cells #[.int .i64 0, .slice none 0 0, .slice none 0 0, .int .i64 0] 101), ?_, Kept.alloc hu _, ⟨u.heap.size, by simp [vsX], hu.size, Cells.new _ _ _⟩, (fun j _ _ _ h => swpT_kept (Kept.alloc (Below.refl _ _) _) j vs h)⟩⟩
      simp only [frR, dstAt, List.getElem?_toArray, List.getElem?_cons_zero, List.getElem?_cons_succ, Option.bind_some, Act.put, List.setIfInBounds_toArray, List.set_cons_zero, List.set_cons_succ]; go_simp; first | done | exact rfl
    · refine ⟨_, rfl, fun u hu hd => ?_⟩
      obtain ⟨A, e9, hA9, hC9⟩ : ∃ A, vs 9 = .pointer (some ⟨A, 0, none⟩) ∧ w1.drew.heap.size ≤ A ∧ Cells u A 26 #[.slice none 0 0] := hd 9 (by kernel_rfl)
      obtain ⟨va, vn, vc, m, _, e7⟩ : ∃ va vn vc m, vs 6 = .tuple #[.agg #[.slice va vn vc], m] ∧ vs 7 = .agg #[.slice va vn vc] := hd 7 (by kernel_rfl)
      have x0 := hC9.cell 0
      have x1 := hC9.frozen 0
      have x2 := hC9.lt
      refine .inr (.inr ⟨u.setCell ⟨A, 0, none⟩ (.slice va vn vc), ?_, hu.set (by simpa using hA9) _, ⟨A, va, vn, vc, by simp [vsX, e9], by simp [vsX, e7], hA9, hC9.set1 _⟩, fun j hj _ hD h => swpT_store hC9 j vs hj hD h⟩)
      simp only [frR, dstAt, List.getElem?_toArray, List.getElem?_cons_zero, List.getElem?_cons_succ, Option.bind_some, Act.put, List.setIfInBounds_toArray, List.set_cons_zero, List.set_cons_succ]; simp only [e9, e7]; go_simp; first | done | exact rfl
  · intro vs u hu
    simp only [List.drop_succ_cons, List.drop_zero, seqWp]
    simp only [frR, dstAt, List.getElem?_toArray, List.getElem?_cons_zero, List.getElem?_cons_succ, Option.bind_some, Act.put, List.setIfInBounds_toArray, List.set_cons_zero, List.set_cons_succ]
    intro hR
    obtain ⟨va, vn, vc, m, e5, hO, hM⟩ := hR 5 (by decide) (fun k _ => by simp [swpD])
    obtain ⟨va6, vn6, vc6, m6, e56, e6⟩ := hR 6 (by decide) (fun k _ => by simp [swpD])
    obtain ⟨va7, vn7, vc7, m7, e67, e7⟩ := hR 7 (by decide) (fun k _ => by simp [swpD])
    obtain ⟨va8, vn8, vc8, m8, e68, e8⟩ := hR 8 (by decide) (fun k _ => by simp [swpD])
    obtain ⟨B, e10, hB10, hCB⟩ := hR 10 (by decide) (fun k _ => by simp [swpD])
    obtain ⟨A, vaA, vnA, vcA, e9, e79, hA9, hCA⟩ := hR 11 (by decide) (fun k _ => by simp [swpD])
    rw [e5] at e56
    rw [e6] at e67 e68
    rw [e7] at e79
    simp at e56 e67 e68 e79
    obtain ⟨⟨rfl, rfl, rfl⟩, rfl⟩ := e56
    obtain ⟨⟨rfl, rfl, rfl⟩, rfl⟩ := e67
    obtain ⟨⟨rfl, rfl, rfl⟩, rfl⟩ := e68
    obtain ⟨rfl, rfl, rfl⟩ := e79
    clear e5 e6 hR
    obtain ⟨_, r3, q3, K3, hs3⟩ := HS0.out _ ((hk1.trans kd).trans hu)
    have hsw := (HS0.out _ (hk1.trans kd)).2.2.2.2
    obtain ⟨ga9, ba9, gc9, bc9, rfl, _, _, _, _, _⟩ := mkO_two' hM
    obtain ⟨ph9, hph9⟩ : ∃ x, (swpC zs 2 gs bs (a : Nat) n).2.1 = x := ⟨_, rfl⟩
    obtain ⟨gs9, hgs9⟩ : ∃ x, (swpC zs 2 gs bs (a : Nat) n).2.2.1 = x := ⟨_, rfl⟩
    obtain ⟨bs9, hbs9⟩ : ∃ x, (swpC zs 2 gs bs (a : Nat) n).2.2.2.1 = x := ⟨_, rfl⟩
    obtain ⟨at9, hat9⟩ : ∃ x, (swpC zs 2 gs bs (a : Nat) n).2.2.2.2 = x := ⟨_, rfl⟩
    obtain ⟨zs9, hzs9⟩ : ∃ x, (swpC zs 2 gs bs (a : Nat) n).1 = x := ⟨_, rfl⟩
    rw [hph9, hgs9, hbs9, hat9] at hM
    rw [hzs9] at hO
    rw [hph9, hgs9, hbs9, hat9] at e8
    have HR9 : Hid ((swpC zs 2 gs bs (a : Nat) n).1 = zs9 ∧ (swpC zs 2 gs bs (a : Nat) n).2.1 = ph9 ∧ (swpC zs 2 gs bs (a : Nat) n).2.2.1 = gs9 ∧ (swpC zs 2 gs bs (a : Nat) n).2.2.2.1 = bs9 ∧ (swpC zs 2 gs bs (a : Nat) n).2.2.2.2 = at9) := ⟨hzs9, hph9, hgs9, hbs9, hat9⟩
    clear hph9 hgs9 hbs9 hat9 hzs9
    obtain ⟨K6, r6, q6, cA6, cB6, hO6, hM6⟩ := box4 hCA hCB r3 q3 K3 (by omega) (.int .i64 ph9) (.slice ga9 gs9.length gc9) (.slice ba9 bs9.length bc9) (.int .i64 at9)
    have b0 := hCB.cell 0
    have b1 := hCB.cell 1
    have b2 := hCB.cell 2
    have b3 := hCB.cell 3
    have t0 := hCB.frozen 0
    have t1 := hCB.frozen 1
    have t2 := hCB.frozen 2
    have t3 := hCB.frozen 3
    have tl := hCB.lt
    simp only [e7, e8, e9, e10]
    unfold Oper.wp
    go_simp
    obtain ⟨U, hU⟩ : ∃ U, ((((u.setCell ⟨B, 0, none⟩ (.int .i64 ph9)).setCell ⟨B, 1, none⟩ (.slice ga9 gs9.length gc9)).setCell ⟨B, 2, none⟩ (.slice ba9 bs9.length bc9)).setCell ⟨B, 3, none⟩ (.int .i64 at9)) = U := ⟨_, rfl⟩
    rw [hU] at K6 r6 q6 cA6 cB6 hO6 hM6
    rw [hU]
    have O6 := hO6 _ _ _ hO
    have M6 := hM6 _ _ _ _ _ _ hM
    clear hU hO6 hM6 hO hM b0 b1 b2 b3 t0 t1 t2 t3 tl hCA hCB r3 q3 K3 e7 e8 e9 e10
    have a0 := cA6.cell 0
    have b0 := cB6.cell 0
    have b1 := cB6.cell 1
    have b2 := cB6.cell 2
    have b3 := cB6.cell 3
    have e0 := r6.cell 0; have f0 := r6.frozen 0; have l0 := r6.lt; have g0 := q6.cell 0; have g1 := q6.cell 1; have g2 := q6.cell 2; have g3 := q6.cell 3; have h0 := q6.frozen 0; have h1 := q6.frozen 1; have h2 := q6.frozen 2; have h3 := q6.frozen 3; have l1 := q6.lt
    clear cA6 cB6
    have hAw : A ≠ w.heap.size + 1 + 1 := by omega
    go_wp2_with fail
    go_region
    all_goals (
      go_wp2_with fail
      obtain ⟨K9, c6, c7, ho, hmm⟩ := two_ret r6 q6 K6 (.slice va vn vc) (.int .i64 ph9) (.slice ga9 gs9.length gc9) (.slice ba9 bs9.length bc9) (.int .i64 at9)
      have z2 := (c6.kept (Below.refl _ _).drew).cell 0
      have z40 := (c7.kept (Below.refl _ _).drew).cell 0
      have z41 := (c7.kept (Below.refl _ _).drew).cell 1
      have z42 := (c7.kept (Below.refl _ _).drew).cell 2
      have z43 := (c7.kept (Below.refl _ _).drew).cell 3
      refine bodyPost_ret (v := .tuple #[.agg #[.slice va vn vc], .agg #[.int .i64 ph9, .slice ga9 gs9.length gc9, .slice ba9 bs9.length bc9, .int .i64 at9]]) (by simp [results, Tryz.results125, go_sem, z2, z40, z41, z42, z43]) rfl ⟨_, _, rfl, by rw [HR9.out.1]; exact ((ho _ _ _ (by omega) O6).keptK (Below.refl _ _).drew).base (by omega), by rw [HR9.out.2.1, HR9.out.2.2.1, HR9.out.2.2.2.1, HR9.out.2.2.2.2]; exact ((hmm _ _ _ _ _ _ (by omega) M6).kept (Below.refl _ _).drew).base (by omega), K9.trans (Below.refl _ _).drew⟩)
end Go.Proofs.YtgnpllpinfhccaaGreatDoor
namespace Go.Proofs.YtgnpllpinfhccaaGreatDoor
open Go.RowKit
attribute [local go_sem] Plain.and7
set_option linter.unusedSimpArgs false
set_option maxHeartbeats 32000000 in
set_option maxRecDepth 100000 in
theorem sweepStep_not (w : World) (b1' b2' : Nat) (ao ga ba : Option Addr) (cap gc bc : Nat) (zs gs bs : List Int) (ph at' n : Int) (hI : Ints w ao zs) (hl : zs.length ≤ 1048576) (hg : OwnL w b1' (.slice ga gs.length gc) gs) (hb : OwnL w b2' (.slice ba bs.length bc) bs) (hgl : gs.length ≤ 1048576) (hbl : bs.length ≤ 1048576) (hmk : markR zs ph gs bs at' = true) (hph : ph ≠ 2) :
    Calls Tryz.prog 125 #[.agg #[.slice ao zs.length cap], .agg #[.int .i64 ph, .slice ga gs.length gc, .slice ba bs.length bc, .int .i64 at'], .int .i64 n] w fun e w' => ∃ v m, e = .returned (.tuple #[.agg #[v], m]) ∧ OwnR w' w.heap.size v (swpC zs ph gs bs at' n).1 ∧ MkO w' w.heap.size m (swpC zs ph gs bs at' n).2.1 (swpC zs ph gs bs at' n).2.2.1 (swpC zs ph gs bs at' n).2.2.2.1 (swpC zs ph gs bs at' n).2.2.2.2 ∧ Kept w w' := by
  have x0 := (((Cells.new w 26 #[.slice ao zs.length cap]).alloc (.cells #[.int .i64 ph, .slice ga gs.length gc, .slice ba bs.length bc, .int .i64 at'] 101)).alloc (.cells #[.slice none 0 0] 26)).alloc (.cells #[.int .i64 0, .slice none 0 0, .slice none 0 0, .int .i64 0] 101)
  have x1 := ((Cells.new (w.alloc (.cells #[.slice ao zs.length cap] 26)) 101 #[.int .i64 ph, .slice ga gs.length gc, .slice ba bs.length bc, .int .i64 at']).alloc (.cells #[.slice none 0 0] 26)).alloc (.cells #[.int .i64 0, .slice none 0 0, .slice none 0 0, .int .i64 0] 101)
  have x2 := (Cells.new ((w.alloc (.cells #[.slice ao zs.length cap] 26)).alloc (.cells #[.int .i64 ph, .slice ga gs.length gc, .slice ba bs.length bc, .int .i64 at'] 101)) 26 #[.slice none 0 0]).alloc (.cells #[.int .i64 0, .slice none 0 0, .slice none 0 0, .int .i64 0] 101)
  have x3 := Cells.new (((w.alloc (.cells #[.slice ao zs.length cap] 26)).alloc (.cells #[.int .i64 ph, .slice ga gs.length gc, .slice ba bs.length bc, .int .i64 at'] 101)).alloc (.cells #[.slice none 0 0] 26)) 101 #[.int .i64 0, .slice none 0 0, .slice none 0 0, .int .i64 0]
  simp only [World.size_alloc] at x1 x2 x3
  have k0 : Kept w ((((w.alloc (.cells #[.slice ao zs.length cap] 26)).alloc (.cells #[.int .i64 ph, .slice ga gs.length gc, .slice ba bs.length bc, .int .i64 at'] 101)).alloc (.cells #[.slice none 0 0] 26)).alloc (.cells #[.int .i64 0, .slice none 0 0, .slice none 0 0, .int .i64 0] 101)) := (((Kept.alloc (Below.refl _ _) _).alloc _).alloc _).alloc _
  have hs0 : ((((w.alloc (.cells #[.slice ao zs.length cap] 26)).alloc (.cells #[.int .i64 ph, .slice ga gs.length gc, .slice ba bs.length bc, .int .i64 at'] 101)).alloc (.cells #[.slice none 0 0] 26)).alloc (.cells #[.int .i64 0, .slice none 0 0, .slice none 0 0, .int .i64 0] 101)).heap.size = w.heap.size + 4 := by simp
  have hm := MkI.of hg hb hgl hbl
  have hMk := spec_MarkerOk_ok _ ao ga ba cap gc bc zs gs bs ph at' (hI.kept k0) hl (hm.kept k0)
  have HIs : Hid (∀ u, Kept w u → Ints u ao zs) := fun u hu => hI.kept hu
  have HC8 : Hid _ := fun (u : World) (hu : Kept w u) => l8Copy_ok u b1' b2' ph at' ga ba gc bc gs bs (hg.kept (row := none) hu.grown (fun _ e => by cases e)) (hb.kept (row := none) hu.grown (fun _ e => by cases e)) hgl hbl
  have HC2 : Hid _ := fun (u : World) (hu : Kept w u) => l2Copy_ok u ao cap zs (hI.kept hu) hl
  have c00 := x0.cell 0
  have c10 := x1.cell 0
  have c11 := x1.cell 1
  have c12 := x1.cell 2
  have c13 := x1.cell 3
  have HS0 : Hid (∀ u, Kept ((((w.alloc (.cells #[.slice ao zs.length cap] 26)).alloc (.cells #[.int .i64 ph, .slice ga gs.length gc, .slice ba bs.length bc, .int .i64 at'] 101)).alloc (.cells #[.slice none 0 0] 26)).alloc (.cells #[.int .i64 0, .slice none 0 0, .slice none 0 0, .int .i64 0] 101)) u → (u.cell? ⟨w.heap.size, 0, none⟩ = some (.slice ao zs.length cap) ∧ u.cell? ⟨w.heap.size + 1, 0, none⟩ = some (.int .i64 ph) ∧ u.cell? ⟨w.heap.size + 1, 1, none⟩ = some (.slice ga gs.length gc) ∧ u.cell? ⟨w.heap.size + 1, 2, none⟩ = some (.slice ba bs.length bc) ∧ u.cell? ⟨w.heap.size + 1, 3, none⟩ = some (.int .i64 at')) ∧ Cells u (w.heap.size + 1 + 1) 26 #[.slice none 0 0] ∧ Cells u (w.heap.size + 1 + 1 + 1) 101 #[.int .i64 0, .slice none 0 0, .slice none 0 0, .int .i64 0] ∧ Kept w u ∧ w.heap.size + 4 ≤ u.heap.size) := fun u hu => ⟨⟨(x0.kept hu).cell 0, (x1.kept hu).cell 0, (x1.kept hu).cell 1, (x1.kept hu).cell 2, (x1.kept hu).cell 3⟩, x2.kept hu, x3.kept hu, k0.trans hu, by have := hu.size; rw [hs0] at this; exact this⟩
  clear hI hg hb hm x0 x1 x2 x3 hs0
  have HR : Hid (swpC zs ph gs bs at' n = (zs, ph, gs, bs, at')) := by rw [Hid]; unfold swpC; rw [if_pos hmk, if_neg hph]
  have hd : (ph == 2) = false := by simpa using hph
  have hd2 : (ph != 2) = true := by simpa using hph
  rw [hmk] at hMk
  clear hmk hph
  go_enter Tryz.func125, Tryz.ntmps125
  go_upto_region 4 with (first | (go_at_call 165; refine hMk.mono ?_; rintro e w1 ⟨rfl, hk1⟩; obtain ⟨⟨d0, d1, d2, d3, d4⟩, _, _, K1, hs1⟩ := HS0.out _ hk1))
  have kd : Kept w1 w1.drew := (Below.refl _ w1).drew
  clear d0 d1 d2 d3 d4 c00 c10 c11 c12 c13
  obtain ⟨⟨d0, d1, d2, d3, d4⟩, _, _, Kd, hsd⟩ := HS0.out _ (hk1.trans kd)
  go_wp2_with fail
  go_region_with (first | (go_at_call 29; refine (HC2.out _ Kd).mono ?_; rintro e w2 ⟨g2', c2', rfl, hg2, hc2, hR2, hk2, hz2⟩; obtain ⟨⟨j0, j1, j2, j3, j4⟩, _, _, K2, hs2⟩ := HS0.out _ ((hk1.trans kd).trans hk2)) | (go_at_call 166; refine (HC8.out _ K2).mono ?_; rintro e w3 ⟨m3, rfl, hM3, hk3⟩; obtain ⟨ga2, ba2, gc2, bc2, rfl, og2, ob2, hn2, _, _⟩ := mkO_two' hM3; obtain ⟨_, r3, q3, K3, hs3⟩ := HS0.out _ (((hk1.trans kd).trans hk2).trans hk3); have e0 := r3.cell 0; have f0 := r3.frozen 0; have l0 := r3.lt; have g0 := q3.cell 0; have g1 := q3.cell 1; have g2 := q3.cell 2; have g3 := q3.cell 3; have h0 := q3.frozen 0; have h1 := q3.frozen 1; have h2 := q3.frozen 2; have h3 := q3.frozen 3; have l1 := q3.lt))
  all_goals (
    go_wp2_with fail
    obtain ⟨K9, c6, c7, ho, hmm⟩ := two_ret r3 q3 K3 (.slice (some ⟨g2', 0, none⟩) zs.length c2') (.int .i64 ph) (.slice ga2 gs.length gc2) (.slice ba2 bs.length bc2) (.int .i64 at')
    have z2 := c6.cell 0
    have z40 := c7.cell 0
    have z41 := c7.cell 1
    have z42 := c7.cell 2
    have z43 := c7.cell 3
    have HO : OwnR w3 w1.drew.heap.size (.slice (some ⟨g2', 0, none⟩) zs.length c2') zs := .inr ⟨_, _, rfl, hg2, hc2, hR2.kept hk3⟩
    refine bodyPost_ret (v := .tuple #[.agg #[.slice (some ⟨g2', 0, none⟩) zs.length c2'], .agg #[.int .i64 ph, .slice ga2 gs.length gc2, .slice ba2 bs.length bc2, .int .i64 at']]) (by simp [results, Tryz.results125, go_sem, z2, z40, z41, z42, z43]) rfl ⟨_, _, rfl, by rw [HR.out]; exact (ho _ _ _ hsd HO).base (by omega), by rw [HR.out]; exact (hmm _ _ _ _ _ _ hs2 hM3).base (by omega), K9⟩)
end Go.Proofs.YtgnpllpinfhccaaGreatDoor
namespace Go.Proofs.YtgnpllpinfhccaaGreatDoor
open Go.RowKit
attribute [local go_sem] Plain.and7
set_option linter.unusedSimpArgs false
set_option maxHeartbeats 32000000 in
set_option maxRecDepth 100000 in
theorem spec_SweepStep_ok (w : World) (b1' b2' : Nat) (ao ga ba : Option Addr) (cap gc bc : Nat) (zs gs bs : List Int) (ph at' n : Int) (hI : Ints w ao zs) (hl : zs.length ≤ 1048576) (hg : OwnL w b1' (.slice ga gs.length gc) gs) (hb : OwnL w b2' (.slice ba bs.length bc) bs) (hgl : gs.length ≤ 1048576) (hbl : bs.length ≤ 1048576) (hn : n ≤ 9223372036854775807) :
    Calls Tryz.prog 125 #[.agg #[.slice ao zs.length cap], .agg #[.int .i64 ph, .slice ga gs.length gc, .slice ba bs.length bc, .int .i64 at'], .int .i64 n] w fun e w' => ∃ v m, e = .returned (.tuple #[.agg #[v], m]) ∧ OwnR w' w.heap.size v (swpC zs ph gs bs at' n).1 ∧ MkO w' w.heap.size m (swpC zs ph gs bs at' n).2.1 (swpC zs ph gs bs at' n).2.2.1 (swpC zs ph gs bs at' n).2.2.2.1 (swpC zs ph gs bs at' n).2.2.2.2 ∧ Kept w w' := by
  cases hmk : markR zs ph gs bs at' with
  | false => exact sweepStep_wrong w b1' b2' ao ga ba cap gc bc zs gs bs ph at' n hI hl hg hb hgl hbl hmk
  | true =>
    by_cases hph : ph = 2
    · exact sweepStep_two w b1' b2' ao ga ba cap gc bc zs gs bs ph at' n hI hl hg hb hgl hbl hn hmk hph
    · exact sweepStep_not w b1' b2' ao ga ba cap gc bc zs gs bs ph at' n hI hl hg hb hgl hbl hmk hph
end Go.Proofs.YtgnpllpinfhccaaGreatDoor
namespace Go.Proofs.YtgnpllpinfhccaaGreatDoor
open Go.RowKit
attribute [local go_sem] Plain.and7
set_option linter.unusedSimpArgs false

def twoT (wd : World) (x0 x1 x2 : Value) (ph3 : Int) (gs3 bs3 : List Int) (at3 : Int) (zs9 : List Int) (ph9 : Int) (gs9 bs9 : List Int) (at9 : Int) : Told where
  B u := Kept wd u
  R j vs u := match j with
    | 0 => vs 0 = x0
    | 1 => vs 1 = x1
    | 2 => vs 2 = x2
    | 3 => MkO u wd.heap.size (vs 3) ph3 gs3 bs3 at3
    | 4 => ∃ va vn vc m, vs 4 = .tuple #[.agg #[.slice va vn vc], m] ∧ OwnR u wd.heap.size (.slice va vn vc) zs9 ∧ MkO u wd.heap.size m ph9 gs9 bs9 at9
    | 5 => ∃ va vn vc m, vs 4 = .tuple #[.agg #[.slice va vn vc], m] ∧ vs 5 = .tuple #[.agg #[.slice va vn vc], m]
    | 6 => ∃ va vn vc m, vs 5 = .tuple #[.agg #[.slice va vn vc], m] ∧ vs 6 = .agg #[.slice va vn vc]
    | 7 => ∃ va vn vc m, vs 5 = .tuple #[.agg #[.slice va vn vc], m] ∧ vs 7 = m
    | 8 => ∃ A, vs 8 = .pointer (some ⟨A, 0, none⟩) ∧ wd.heap.size ≤ A ∧ Cells u A 26 #[.slice none 0 0]
    | 9 => ∃ A, vs 9 = .pointer (some ⟨A, 0, none⟩) ∧ wd.heap.size ≤ A ∧ Cells u A 101 #[.int .i64 0, .slice none 0 0, .slice none 0 0, .int .i64 0]
    | 10 => ∃ A va vn vc, vs 8 = .pointer (some ⟨A, 0, none⟩) ∧ vs 6 = .agg #[.slice va vn vc] ∧ wd.heap.size ≤ A ∧ Cells u A 26 #[.slice va vn vc]
    | _ => True
def twoD (i j : Nat) : Bool := i == 10 && j == 8
theorem twoT_kept {wd u u' : World} {x0 x1 x2 : Value} {ph3 at3 ph9 at9 : Int} {gs3 bs3 zs9 gs9 bs9 : List Int} (hk : Kept u u') (j : Nat) (vs : Nat → Value) (h : (twoT wd x0 x1 x2 ph3 gs3 bs3 at3 zs9 ph9 gs9 bs9 at9).R j vs u) : (twoT wd x0 x1 x2 ph3 gs3 bs3 at3 zs9 ph9 gs9 bs9 at9).R j vs u' := by
  match j, h with
  | 0, h => exact h
  | 1, h => exact h
  | 2, h => exact h
  | 3, h => exact MkO.kept h hk
  | 4, h => obtain ⟨va, vn, vc, m, e, h1, h2⟩ := h; exact ⟨va, vn, vc, m, e, h1.keptK hk, h2.kept hk⟩
  | 5, h => exact h
  | 6, h => exact h
  | 7, h => exact h
  | 8, h => obtain ⟨A, e, h1, h2⟩ := h; exact ⟨A, e, h1, h2.kept hk⟩
  | 9, h => obtain ⟨A, e, h1, h2⟩ := h; exact ⟨A, e, h1, h2.kept hk⟩
  | 10, h => obtain ⟨A, va, vn, vc, e, e', h1, h2⟩ := h; exact ⟨A, va, vn, vc, e, e', h1, h2.kept hk⟩
  | _ + 11, _ => exact trivial
theorem twoT_own {ops : Array Oper} {wd : World} {x0 x1 x2 : Value} {ph3 at3 ph9 at9 : Int} {gs3 bs3 zs9 gs9 bs9 : List Int} (h54 : depOk ops 5 4 = true) (h65 : depOk ops 6 5 = true) (h75 : depOk ops 7 5 = true) (h108 : depOk ops 10 8 = true) (h106 : depOk ops 10 6 = true) : (twoT wd x0 x1 x2 ph3 gs3 bs3 at3 zs9 ph9 gs9 bs9 at9).own ops := by
  intro j vs vs' u h hR
  match j, h, hR with
  | 0, h, hR => show vs' 0 = _; rw [← h 0 (.inl rfl)]; exact hR
  | 1, h, hR => show vs' 1 = _; rw [← h 1 (.inl rfl)]; exact hR
  | 2, h, hR => show vs' 2 = _; rw [← h 2 (.inl rfl)]; exact hR
  | 3, h, hR => show MkO u _ (vs' 3) _ _ _ _; rw [← h 3 (.inl rfl)]; exact hR
  | 4, h, hR => show ∃ va vn vc m, vs' 4 = _ ∧ _; rw [← h 4 (.inl rfl)]; exact hR
  | 5, h, hR => show ∃ va vn vc m, vs' 4 = _ ∧ vs' 5 = _; rw [← h 4 (.inr h54), ← h 5 (.inl rfl)]; exact hR
  | 6, h, hR => show ∃ va vn vc m, vs' 5 = _ ∧ vs' 6 = _; rw [← h 5 (.inr h65), ← h 6 (.inl rfl)]; exact hR
  | 7, h, hR => show ∃ va vn vc m, vs' 5 = _ ∧ vs' 7 = _; rw [← h 5 (.inr h75), ← h 7 (.inl rfl)]; exact hR
  | 8, h, hR => show ∃ A, vs' 8 = _ ∧ _; rw [← h 8 (.inl rfl)]; exact hR
  | 9, h, hR => show ∃ A, vs' 9 = _ ∧ _; rw [← h 9 (.inl rfl)]; exact hR
  | 10, h, hR => show ∃ A va vn vc, vs' 8 = _ ∧ vs' 6 = _ ∧ _; rw [← h 8 (.inr h108), ← h 6 (.inr h106)]; exact hR
  | _ + 11, _, _ => exact trivial
theorem twoT_store {wd u : World} {x0 x1 x2 : Value} {ph3 at3 ph9 at9 : Int} {gs3 bs3 zs9 gs9 bs9 : List Int} {v : Value} {A : Nat} (hA : Cells u A 26 #[.slice none 0 0]) (j : Nat) (vs : Nat → Value) (hj : j ≠ 10) (hD : twoD 10 j = false) (h : (twoT wd x0 x1 x2 ph3 gs3 bs3 at3 zs9 ph9 gs9 bs9 at9).R j vs u) : (twoT wd x0 x1 x2 ph3 gs3 bs3 at3 zs9 ph9 gs9 bs9 at9).R j vs (u.setCell ⟨A, 0, none⟩ v) := by
  match j, hj, hD, h with
  | 0, _, _, h => exact h
  | 1, _, _, h => exact h
  | 2, _, _, h => exact h
  | 3, _, _, h => exact MkO.apart h hA (by decide)
  | 4, _, _, h => obtain ⟨va, vn, vc, m, e, h1, h2⟩ := h; exact ⟨va, vn, vc, m, e, h1.apart hA (by decide), h2.apart hA (by decide)⟩
  | 5, _, _, h => exact h
  | 6, _, _, h => exact h
  | 7, _, _, h => exact h
  | 8, _, hD, _ => exact absurd hD (by decide)
  | 9, _, _, h => obtain ⟨B, e, h1, h2⟩ := h; exact ⟨B, e, h1, h2.other (p := ⟨A, 0, none⟩) (fun e => box_ne hA h2 (by decide) (by simpa using Eq.symm e)) v⟩
  | 10, hj, _, _ => exact absurd rfl hj
  | _ + 11, _, _, _ => exact trivial
end Go.Proofs.YtgnpllpinfhccaaGreatDoor
namespace Go.Proofs.YtgnpllpinfhccaaGreatDoor
open Go.RowKit
attribute [local go_sem] Plain.and7
set_option linter.unusedSimpArgs false
theorem stepL_twoJ {zs : List Int} (hh : heapR zs = true) : ∀ (k : Nat) (gs bs : List Int), Two zs gs bs → Two zs (stepL zs k gs bs).1 (stepL zs k gs bs).2
  | 0, _, _, h => h
  | _ + 1, [], _, h => h
  | k + 1, a :: _, _, h => stepL_twoJ hh k _ _ (h.ink.shades (leads_slots hh (h.g.2 a (by simp))).1)
theorem mark_heap {zs gs bs : List Int} {at' : Int} (h : markR zs 1 gs bs at' = true) : heapR zs = true := by
  unfold markR at h
  simp only [Bool.and_eq_true] at h
  have h1 := h.2
  rw [if_neg (by decide), if_pos trivial, Bool.and_eq_true] at h1
  exact h1.2
theorem stepC_lenJ {zs gs bs : List Int} {ph at' n : Int} {L : Nat} (hz : zs.length ≤ L) (hg : gs.length ≤ L) (hb : bs.length ≤ L) : (stepC zs ph gs bs at' n).2.1.length ≤ L ∧ (stepC zs ph gs bs at' n).2.2.length ≤ L := by
  unfold stepC
  split
  · rename_i h
    obtain ⟨h1, rfl⟩ := h
    have h2 := stepL_twoJ (mark_heap h1) n.toNat gs bs (markR_two h1)
    have h3 := h2.g.len
    have h4 := h2.b.len
    simp only
    omega
  · exact ⟨hg, hb⟩
theorem startC_lenJ {zs rs : List Int} : (startC zs rs).2.length ≤ rs.length := by
  unfold startC
  split
  · have : ∀ (vs out : List Int), (meetL out vs).length ≤ out.length + vs.length := by
      intro vs
      induction vs with
      | nil => intro out; simp [meetL]
      | cons v vs ih =>
        intro out
        have h1 := ih (addB out (blkV v))
        have h2 : (addB out (blkV v)).length ≤ out.length + 1 := by unfold addB; split <;> simp
        simp only [meetL, List.foldl_cons, List.length_cons] at h1 ⊢
        omega
    simpa using this rs []
  · simp
end Go.Proofs.YtgnpllpinfhccaaGreatDoor
namespace Go.Proofs.YtgnpllpinfhccaaGreatDoor
open Go.RowKit
attribute [local go_sem] Plain.and7
set_option linter.unusedSimpArgs false
set_option maxHeartbeats 32000000 in
set_option maxRecDepth 100000 in
theorem spec_Sweep_ok (w : World) (b1' b2' : Nat) (ao ga ba : Option Addr) (cap gc bc : Nat) (zs gs bs : List Int) (ph at' : Int) (hI : Ints w ao zs) (hl : zs.length ≤ 1048576) (hg : OwnL w b1' (.slice ga gs.length gc) gs) (hb : OwnL w b2' (.slice ba bs.length bc) bs) (hgl : gs.length ≤ 1048576) (hbl : bs.length ≤ 1048576) :
    Calls Tryz.prog 76 #[.agg #[.slice ao zs.length cap], .agg #[.int .i64 ph, .slice ga gs.length gc, .slice ba bs.length bc, .int .i64 at']] w fun e w' => ∃ v m, e = .returned (.tuple #[.agg #[v], m]) ∧ OwnR w' w.heap.size v (sweepC zs ph gs bs at').1 ∧ MkO w' w.heap.size m (sweepC zs ph gs bs at').2.1 (sweepC zs ph gs bs at').2.2.1 (sweepC zs ph gs bs at').2.2.2.1 (sweepC zs ph gs bs at').2.2.2.2 ∧ Kept w w' := by
  have x0 := (((Cells.new w 26 #[.slice ao zs.length cap]).alloc (.cells #[.int .i64 ph, .slice ga gs.length gc, .slice ba bs.length bc, .int .i64 at'] 101)).alloc (.cells #[.slice none 0 0] 26)).alloc (.cells #[.int .i64 0, .slice none 0 0, .slice none 0 0, .int .i64 0] 101)
  have x1 := ((Cells.new (w.alloc (.cells #[.slice ao zs.length cap] 26)) 101 #[.int .i64 ph, .slice ga gs.length gc, .slice ba bs.length bc, .int .i64 at']).alloc (.cells #[.slice none 0 0] 26)).alloc (.cells #[.int .i64 0, .slice none 0 0, .slice none 0 0, .int .i64 0] 101)
  have x2 := (Cells.new ((w.alloc (.cells #[.slice ao zs.length cap] 26)).alloc (.cells #[.int .i64 ph, .slice ga gs.length gc, .slice ba bs.length bc, .int .i64 at'] 101)) 26 #[.slice none 0 0]).alloc (.cells #[.int .i64 0, .slice none 0 0, .slice none 0 0, .int .i64 0] 101)
  have x3 := Cells.new (((w.alloc (.cells #[.slice ao zs.length cap] 26)).alloc (.cells #[.int .i64 ph, .slice ga gs.length gc, .slice ba bs.length bc, .int .i64 at'] 101)).alloc (.cells #[.slice none 0 0] 26)) 101 #[.int .i64 0, .slice none 0 0, .slice none 0 0, .int .i64 0]
  simp only [World.size_alloc] at x1 x2 x3
  have k0 : Kept w ((((w.alloc (.cells #[.slice ao zs.length cap] 26)).alloc (.cells #[.int .i64 ph, .slice ga gs.length gc, .slice ba bs.length bc, .int .i64 at'] 101)).alloc (.cells #[.slice none 0 0] 26)).alloc (.cells #[.int .i64 0, .slice none 0 0, .slice none 0 0, .int .i64 0] 101)) := (((Kept.alloc (Below.refl _ _) _).alloc _).alloc _).alloc _
  have hs0 : ((((w.alloc (.cells #[.slice ao zs.length cap] 26)).alloc (.cells #[.int .i64 ph, .slice ga gs.length gc, .slice ba bs.length bc, .int .i64 at'] 101)).alloc (.cells #[.slice none 0 0] 26)).alloc (.cells #[.int .i64 0, .slice none 0 0, .slice none 0 0, .int .i64 0] 101)).heap.size = w.heap.size + 4 := by simp
  have HIs : Hid (∀ u, Kept w u → Ints u ao zs) := fun u hu => hI.kept hu
  have HMS : Hid _ := fun (u : World) (hu : Kept w u) => spec_MarkStep_ok u b1' b2' ao ga ba cap gc bc zs gs bs ph at' 2000 (hI.kept hu) hl (hg.kept (row := none) hu.grown (fun _ e => by cases e)) (hb.kept (row := none) hu.grown (fun _ e => by cases e)) hgl hbl (by decide)
  have c00 := x0.cell 0
  have c10 := x1.cell 0
  have c11 := x1.cell 1
  have c12 := x1.cell 2
  have c13 := x1.cell 3
  have HS0 : Hid (∀ u, Kept ((((w.alloc (.cells #[.slice ao zs.length cap] 26)).alloc (.cells #[.int .i64 ph, .slice ga gs.length gc, .slice ba bs.length bc, .int .i64 at'] 101)).alloc (.cells #[.slice none 0 0] 26)).alloc (.cells #[.int .i64 0, .slice none 0 0, .slice none 0 0, .int .i64 0] 101)) u → (u.cell? ⟨w.heap.size, 0, none⟩ = some (.slice ao zs.length cap) ∧ u.cell? ⟨w.heap.size + 1, 0, none⟩ = some (.int .i64 ph) ∧ u.cell? ⟨w.heap.size + 1, 1, none⟩ = some (.slice ga gs.length gc) ∧ u.cell? ⟨w.heap.size + 1, 2, none⟩ = some (.slice ba bs.length bc) ∧ u.cell? ⟨w.heap.size + 1, 3, none⟩ = some (.int .i64 at')) ∧ Cells u (w.heap.size + 1 + 1) 26 #[.slice none 0 0] ∧ Cells u (w.heap.size + 1 + 1 + 1) 101 #[.int .i64 0, .slice none 0 0, .slice none 0 0, .int .i64 0] ∧ Kept w u ∧ w.heap.size + 4 ≤ u.heap.size) := fun u hu => ⟨⟨(x0.kept hu).cell 0, (x1.kept hu).cell 0, (x1.kept hu).cell 1, (x1.kept hu).cell 2, (x1.kept hu).cell 3⟩, x2.kept hu, x3.kept hu, k0.trans hu, by have := hu.size; rw [hs0] at this; exact this⟩
  clear hI hg hb x0 x1 x2 x3 hs0
  have hle := stepC_lenJ (zs := zs) (ph := ph) (at' := at') (n := 2000) hl hgl hbl
  have HSS : ∀ (u : World) (hu : Kept w u) (ga3 ba3 : Option Addr) (gc3 bc3 c1 c2 : Nat), OwnL u c1 (.slice ga3 (stepC zs ph gs bs at' 2000).2.1.length gc3) (stepC zs ph gs bs at' 2000).2.1 → OwnL u c2 (.slice ba3 (stepC zs ph gs bs at' 2000).2.2.length bc3) (stepC zs ph gs bs at' 2000).2.2 → Calls Tryz.prog 125 #[.agg #[.slice ao zs.length cap], .agg #[.int .i64 (stepC zs ph gs bs at' 2000).1, .slice ga3 (stepC zs ph gs bs at' 2000).2.1.length gc3, .slice ba3 (stepC zs ph gs bs at' 2000).2.2.length bc3, .int .i64 at'], .int .i64 2000] u fun e w' => ∃ v m, e = .returned (.tuple #[.agg #[v], m]) ∧ OwnR w' u.heap.size v (sweepC zs ph gs bs at').1 ∧ MkO w' u.heap.size m (sweepC zs ph gs bs at').2.1 (sweepC zs ph gs bs at').2.2.1 (sweepC zs ph gs bs at').2.2.2.1 (sweepC zs ph gs bs at').2.2.2.2 ∧ Kept u w' := fun u hu ga3 ba3 gc3 bc3 c1 c2 h1 h2 => spec_SweepStep_ok u c1 c2 ao ga3 ba3 cap gc3 bc3 zs _ _ _ at' 2000 (HIs.out u hu) hl h1 h2 hle.1 hle.2 (by decide)
  have HMT := HMS.out
  clear hle HMS HIs
  generalize (stepC zs ph gs bs at' 2000).1 = ph3 at HSS HMT
  generalize (stepC zs ph gs bs at' 2000).2.1 = gs3 at HSS HMT
  generalize (stepC zs ph gs bs at' 2000).2.2 = bs3 at HSS HMT
  generalize (sweepC zs ph gs bs at').1 = zs9 at HSS ⊢
  generalize (sweepC zs ph gs bs at').2.1 = ph9 at HSS ⊢
  generalize (sweepC zs ph gs bs at').2.2.1 = gs9 at HSS ⊢
  generalize (sweepC zs ph gs bs at').2.2.2.1 = bs9 at HSS ⊢
  generalize (sweepC zs ph gs bs at').2.2.2.2 = at9 at HSS ⊢
  have HSS2 : Hid _ := HSS
  have HMS : Hid _ := HMT
  clear HSS HMT
  go_enter Tryz.func76, Tryz.ntmps76
  go_wp2_with fail
  obtain ⟨wd, hwd⟩ : ∃ x, World.drew ((((w.alloc (.cells #[.slice ao zs.length cap] 26)).alloc (.cells #[.int .i64 ph, .slice ga gs.length gc, .slice ba bs.length bc, .int .i64 at'] 101)).alloc (.cells #[.slice none 0 0] 26)).alloc (.cells #[.int .i64 0, .slice none 0 0, .slice none 0 0, .int .i64 0] 101)) = x := ⟨_, rfl⟩
  have HKW : Hid (Kept ((((w.alloc (.cells #[.slice ao zs.length cap] 26)).alloc (.cells #[.int .i64 ph, .slice ga gs.length gc, .slice ba bs.length bc, .int .i64 at'] 101)).alloc (.cells #[.slice none 0 0] 26)).alloc (.cells #[.int .i64 0, .slice none 0 0, .slice none 0 0, .int .i64 0] 101)) wd) := by rw [Hid, ← hwd]; exact (Below.refl _ _).drew
  have HWD : Hid (Kept wd (World.drew ((((w.alloc (.cells #[.slice ao zs.length cap] 26)).alloc (.cells #[.int .i64 ph, .slice ga gs.length gc, .slice ba bs.length bc, .int .i64 at'] 101)).alloc (.cells #[.slice none 0 0] 26)).alloc (.cells #[.int .i64 0, .slice none 0 0, .slice none 0 0, .int .i64 0] 101)))) := by rw [Hid, ← hwd]; exact Below.refl _ _
  have hsw := (HS0.out _ HKW.out).2.2.2.2
  clear hwd c00 c10 c11 c12 c13
  refine wp_region_told 11 (twoT wd (.agg #[.slice ao zs.length cap]) (.agg #[.slice ao zs.length cap]) (.agg #[.int .i64 ph, .slice ga gs.length gc, .slice ba bs.length bc, .int .i64 at']) ph3 gs3 bs3 at' zs9 ph9 gs9 bs9 at9) twoD (by kernel_rfl) (by kernel_rfl) (by decide) (by kernel_rfl) (by kernel_rfl) (twoT_own (by kernel_rfl) (by kernel_rfl) (by kernel_rfl) (by kernel_rfl) (by kernel_rfl)) HWD.out ?_ ?_
  · intro i hi vs
    rcases (show i = 0 ∨ i = 1 ∨ i = 2 ∨ i = 3 ∨ i = 4 ∨ i = 5 ∨ i = 6 ∨ i = 7 ∨ i = 8 ∨ i = 9 ∨ i = 10 by omega) with rfl | rfl | rfl | rfl | rfl | rfl | rfl | rfl | rfl | rfl | rfl
    · refine ⟨_, rfl, fun u hu hd => .inl ⟨(.agg #[.slice ao zs.length cap]), u, ?_, hu, by simp [twoT, vsX], (fun j _ _ _ h => h)⟩⟩
      obtain ⟨⟨d0, d1, d2, d3, d4⟩, _, _, Ku, hsu⟩ := HS0.out _ (HKW.out.trans hu)
      simp only [frR, dstAt, List.getElem?_toArray, List.getElem?_cons_zero, List.getElem?_cons_succ, Option.bind_some, Act.put, List.setIfInBounds_toArray, List.set_cons_zero, List.set_cons_succ]; go_simp; first | done | exact rfl
    · refine ⟨_, rfl, fun u hu hd => .inl ⟨(.agg #[.slice ao zs.length cap]), u, ?_, hu, by simp [twoT, vsX], (fun j _ _ _ h => h)⟩⟩
      obtain ⟨⟨d0, d1, d2, d3, d4⟩, _, _, Ku, hsu⟩ := HS0.out _ (HKW.out.trans hu)
      simp only [frR, dstAt, List.getElem?_toArray, List.getElem?_cons_zero, List.getElem?_cons_succ, Option.bind_some, Act.put, List.setIfInBounds_toArray, List.set_cons_zero, List.set_cons_succ]; go_simp; first | done | exact rfl
    · refine ⟨_, rfl, fun u hu hd => .inl ⟨(.agg #[.int .i64 ph, .slice ga gs.length gc, .slice ba bs.length bc, .int .i64 at']), u, ?_, hu, by simp [twoT, vsX], (fun j _ _ _ h => h)⟩⟩
      obtain ⟨⟨d0, d1, d2, d3, d4⟩, _, _, Ku, hsu⟩ := HS0.out _ (HKW.out.trans hu)
      simp only [frR, dstAt, List.getElem?_toArray, List.getElem?_cons_zero, List.getElem?_cons_succ, Option.bind_some, Act.put, List.setIfInBounds_toArray, List.set_cons_zero, List.set_cons_succ]; go_simp; first | done | exact rfl
    · refine ⟨_, rfl, fun u hu hd => .inr (.inl ⟨126, #[(.agg #[.slice ao zs.length cap]), (.agg #[.int .i64 ph, .slice ga gs.length gc, .slice ba bs.length bc, .int .i64 at']), .int .i64 2000], ?_, ?_⟩)⟩
      · have e1 : vs 1 = (.agg #[.slice ao zs.length cap]) := hd 1 (by kernel_rfl)
        have e2 : vs 2 = (.agg #[.int .i64 ph, .slice ga gs.length gc, .slice ba bs.length bc, .int .i64 at']) := hd 2 (by kernel_rfl)
        simp only [frR, dstAt, List.getElem?_toArray, List.getElem?_cons_zero, List.getElem?_cons_succ, Option.bind_some, Act.put, List.setIfInBounds_toArray, List.set_cons_zero, List.set_cons_succ]; simp only [e1, e2]; go_simp; first | done | exact rfl
      · obtain ⟨⟨d0, d1, d2, d3, d4⟩, _, _, Ku, hsu⟩ := HS0.out _ (HKW.out.trans hu)
        refine (HMS.out _ Ku).mono ?_
        rintro e w3 ⟨m3, rfl, hM3, hk3⟩
        exact ⟨_, rfl, hu.trans hk3, (by simpa [twoT, vsX] using hM3.base (by have := hu.size; omega)), (fun j _ _ _ h => twoT_kept hk3 j vs h)⟩
    · refine ⟨_, rfl, fun u hu hd => ?_⟩
      have e0 : vs 0 = (.agg #[.slice ao zs.length cap]) := hd 0 (by kernel_rfl)
      have hM : MkO u wd.heap.size (vs 3) ph3 gs3 bs3 at' := hd 3 (by kernel_rfl)
      obtain ⟨ga3, ba3, gc3, bc3, e3, og3, ob3, hn3, _, _⟩ := mkO_two' hM
      refine .inr (.inl ⟨125, #[(.agg #[.slice ao zs.length cap]), .agg #[.int .i64 ph3, .slice ga3 gs3.length gc3, .slice ba3 bs3.length bc3, .int .i64 at'], .int .i64 2000], ?_, ?_⟩)
      · simp only [frR, dstAt, List.getElem?_toArray, List.getElem?_cons_zero, List.getElem?_cons_succ, Option.bind_some, Act.put, List.setIfInBounds_toArray, List.set_cons_zero, List.set_cons_succ]; simp only [e0, e3]; go_simp; first | done | exact rfl
      · obtain ⟨⟨d0, d1, d2, d3, d4⟩, _, _, Ku, hsu⟩ := HS0.out _ (HKW.out.trans hu)
        refine (HSS2.out _ Ku ga3 ba3 gc3 bc3 _ _ og3 ob3).mono ?_
        rintro e w4 ⟨v4, m4, rfl, hO4, hM4, hk4⟩
        obtain ⟨va, vc, rfl, _⟩ := hO4.ints
        exact ⟨_, rfl, hu.trans hk4, ⟨va, _, vc, m4, if_pos rfl, hO4.base (by have := hu.size; omega), hM4.base (by have := hu.size; omega)⟩, (fun j _ _ _ h => twoT_kept hk4 j vs h)⟩
    · refine ⟨_, rfl, fun u hu hd => ?_⟩
      obtain ⟨va, vn, vc, m, e4, _, _⟩ : ∃ va vn vc m, vs 4 = .tuple #[.agg #[.slice va vn vc], m] ∧ OwnR u wd.heap.size (.slice va vn vc) _ ∧ MkO u wd.heap.size m _ _ _ _ := hd 4 (by kernel_rfl)
      refine .inl ⟨.tuple #[.agg #[.slice va vn vc], m], u, ?_, hu, ⟨va, vn, vc, m, by simp [vsX, e4], by simp [vsX]⟩, (fun j _ _ _ h => h)⟩
      simp only [frR, dstAt, List.getElem?_toArray, List.getElem?_cons_zero, List.getElem?_cons_succ, Option.bind_some, Act.put, List.setIfInBounds_toArray, List.set_cons_zero, List.set_cons_succ]; simp only [e4]; go_simp; first | done | exact rfl
    · refine ⟨_, rfl, fun u hu hd => ?_⟩
      obtain ⟨va, vn, vc, m, _, e5⟩ : ∃ va vn vc m, vs 4 = .tuple #[.agg #[.slice va vn vc], m] ∧ vs 5 = .tuple #[.agg #[.slice va vn vc], m] := hd 5 (by kernel_rfl)
      refine .inl ⟨.agg #[.slice va vn vc], u, ?_, hu, ⟨va, vn, vc, m, by simp [vsX, e5], by simp [vsX]⟩, (fun j _ _ _ h => h)⟩
      simp only [frR, dstAt, List.getElem?_toArray, List.getElem?_cons_zero, List.getElem?_cons_succ, Option.bind_some, Act.put, List.setIfInBounds_toArray, List.set_cons_zero, List.set_cons_succ]; simp only [e5]; go_simp; first | done | exact rfl
    · refine ⟨_, rfl, fun u hu hd => ?_⟩
      obtain ⟨va, vn, vc, m, _, e5⟩ : ∃ va vn vc m, vs 4 = .tuple #[.agg #[.slice va vn vc], m] ∧ vs 5 = .tuple #[.agg #[.slice va vn vc], m] := hd 5 (by kernel_rfl)
      refine .inl ⟨m, u, ?_, hu, ⟨va, vn, vc, m, by simp [vsX, e5], by simp [vsX]⟩, (fun j _ _ _ h => h)⟩
      simp only [frR, dstAt, List.getElem?_toArray, List.getElem?_cons_zero, List.getElem?_cons_succ, Option.bind_some, Act.put, List.setIfInBounds_toArray, List.set_cons_zero, List.set_cons_succ]; simp only [e5]; go_simp; first | done | exact rfl
    · refine ⟨_, rfl, fun u hu hd => .inl ⟨.pointer (some ⟨u.heap.size, 0, none⟩), u.alloc (.cells #[.slice none 0 0] 26), ?_, Kept.alloc hu _, ⟨u.heap.size, by simp [vsX], hu.size, Cells.new _ _ _⟩, (fun j _ _ _ h => twoT_kept (Kept.alloc (Below.refl _ _) _) j vs h)⟩⟩
      simp only [frR, dstAt, List.getElem?_toArray, List.getElem?_cons_zero, List.getElem?_cons_succ, Option.bind_some, Act.put, List.setIfInBounds_toArray, List.set_cons_zero, List.set_cons_succ]; go_simp; first | done | exact rfl
    · refine ⟨_, rfl, fun u hu hd => .inl ⟨.pointer (some ⟨u.heap.size, 0, none⟩), u.alloc (.cells #[.int .i64 0, .slice none 0 0, .slice none 0 0, .int .i64 0] 101), ?_, Kept.alloc hu _, ⟨u.heap.size, by simp [vsX], hu.size, Cells.new _ _ _⟩, (fun j _ _ _ h => twoT_kept (Kept.alloc (Below.refl _ _) _) j vs h)⟩⟩
      simp only [frR, dstAt, List.getElem?_toArray, List.getElem?_cons_zero, List.getElem?_cons_succ, Option.bind_some, Act.put, List.setIfInBounds_toArray, List.set_cons_zero, List.set_cons_succ]; go_simp; first | done | exact rfl
    · refine ⟨_, rfl, fun u hu hd => ?_⟩
      obtain ⟨A, e8, hA9, hC9⟩ : ∃ A, vs 8 = .pointer (some ⟨A, 0, none⟩) ∧ wd.heap.size ≤ A ∧ Cells u A 26 #[.slice none 0 0] := hd 8 (by kernel_rfl)
      obtain ⟨va, vn, vc, m, _, e6⟩ : ∃ va vn vc m, vs 5 = .tuple #[.agg #[.slice va vn vc], m] ∧ vs 6 = .agg #[.slice va vn vc] := hd 6 (by kernel_rfl)
      have x0 := hC9.cell 0
      have x1 := hC9.frozen 0
      have x2 := hC9.lt
      refine .inr (.inr ⟨u.setCell ⟨A, 0, none⟩ (.slice va vn vc), ?_, hu.set (by simpa using hA9) _, ⟨A, va, vn, vc, by simp [vsX, e8], by simp [vsX, e6], hA9, hC9.set1 _⟩, fun j hj _ hD h => twoT_store hC9 j vs hj hD h⟩)
      simp only [frR, dstAt, List.getElem?_toArray, List.getElem?_cons_zero, List.getElem?_cons_succ, Option.bind_some, Act.put, List.setIfInBounds_toArray, List.set_cons_zero, List.set_cons_succ]; simp only [e8, e6]; go_simp; first | done | exact rfl
  · intro vs u hu
    simp only [List.drop_succ_cons, List.drop_zero, seqWp]
    simp only [frR, dstAt, List.getElem?_toArray, List.getElem?_cons_zero, List.getElem?_cons_succ, Option.bind_some, Act.put, List.setIfInBounds_toArray, List.set_cons_zero, List.set_cons_succ]
    intro hR
    obtain ⟨va, vn, vc, m, e5, hO, hM⟩ := hR 4 (by decide) (fun k _ => by simp [twoD])
    obtain ⟨va6, vn6, vc6, m6, e56, e6⟩ := hR 5 (by decide) (fun k _ => by simp [twoD])
    obtain ⟨va7, vn7, vc7, m7, e67, e7⟩ := hR 6 (by decide) (fun k _ => by simp [twoD])
    obtain ⟨va8, vn8, vc8, m8, e68, e8⟩ := hR 7 (by decide) (fun k _ => by simp [twoD])
    obtain ⟨B, e10, hB10, hCB⟩ := hR 9 (by decide) (fun k _ => by simp [twoD])
    obtain ⟨A, vaA, vnA, vcA, e9, e79, hA9, hCA⟩ := hR 10 (by decide) (fun k _ => by simp [twoD])
    rw [e5] at e56
    rw [e6] at e67 e68
    rw [e7] at e79
    simp at e56 e67 e68 e79
    obtain ⟨⟨rfl, rfl, rfl⟩, rfl⟩ := e56
    obtain ⟨⟨rfl, rfl, rfl⟩, rfl⟩ := e67
    obtain ⟨⟨rfl, rfl, rfl⟩, rfl⟩ := e68
    obtain ⟨rfl, rfl, rfl⟩ := e79
    clear e5 e6 hR
    obtain ⟨ga9, ba9, gc9, bc9, rfl, _, _, _, _, _⟩ := mkO_two' hM
    obtain ⟨_, r3, q3, K3, hs3⟩ := HS0.out _ (HKW.out.trans hu)
    obtain ⟨K6, r6, q6, cA6, cB6, hO6, hM6⟩ := box4 hCA hCB r3 q3 K3 (by omega) (.int .i64 ph9) (.slice ga9 gs9.length gc9) (.slice ba9 bs9.length bc9) (.int .i64 at9)
    have b0 := hCB.cell 0
    have b1 := hCB.cell 1
    have b2 := hCB.cell 2
    have b3 := hCB.cell 3
    have t0 := hCB.frozen 0
    have t1 := hCB.frozen 1
    have t2 := hCB.frozen 2
    have t3 := hCB.frozen 3
    have tl := hCB.lt
    simp only [e7, e8, e9, e10]
    unfold Oper.wp
    go_simp
    obtain ⟨U, hU⟩ : ∃ U, ((((u.setCell ⟨B, 0, none⟩ (.int .i64 ph9)).setCell ⟨B, 1, none⟩ (.slice ga9 gs9.length gc9)).setCell ⟨B, 2, none⟩ (.slice ba9 bs9.length bc9)).setCell ⟨B, 3, none⟩ (.int .i64 at9)) = U := ⟨_, rfl⟩
    rw [hU] at K6 r6 q6 cA6 cB6 hO6 hM6
    rw [hU]
    have O6 := hO6 _ _ _ hO
    have M6 := hM6 _ _ _ _ _ _ hM
    clear hU hO6 hM6 hO hM b0 b1 b2 b3 t0 t1 t2 t3 tl hCA hCB r3 q3 K3 e7 e8 e9 e10
    have a0 := cA6.cell 0
    have b0 := cB6.cell 0
    have b1 := cB6.cell 1
    have b2 := cB6.cell 2
    have b3 := cB6.cell 3
    have e0 := r6.cell 0; have f0 := r6.frozen 0; have l0 := r6.lt; have g0 := q6.cell 0; have g1 := q6.cell 1; have g2 := q6.cell 2; have g3 := q6.cell 3; have h0 := q6.frozen 0; have h1 := q6.frozen 1; have h2 := q6.frozen 2; have h3 := q6.frozen 3; have l1 := q6.lt
    clear cA6 cB6
    have hAw : A ≠ w.heap.size + 1 + 1 := by omega
    go_wp2_with fail
    go_region
    all_goals (
      go_wp2_with fail
      obtain ⟨K9, c6, c7, ho, hmm⟩ := two_ret r6 q6 K6 (.slice va vn vc) (.int .i64 ph9) (.slice ga9 gs9.length gc9) (.slice ba9 bs9.length bc9) (.int .i64 at9)
      have z2 := (c6.kept (Below.refl _ _).drew).cell 0
      have z40 := (c7.kept (Below.refl _ _).drew).cell 0
      have z41 := (c7.kept (Below.refl _ _).drew).cell 1
      have z42 := (c7.kept (Below.refl _ _).drew).cell 2
      have z43 := (c7.kept (Below.refl _ _).drew).cell 3
      refine bodyPost_ret (v := .tuple #[.agg #[.slice va vn vc], .agg #[.int .i64 ph9, .slice ga9 gs9.length gc9, .slice ba9 bs9.length bc9, .int .i64 at9]]) (by simp [results, Tryz.results76, go_sem, z2, z40, z41, z42, z43]) rfl ⟨_, _, rfl, ((ho _ _ _ (by omega) O6).keptK (Below.refl _ _).drew).base (by omega), ((hmm _ _ _ _ _ _ (by omega) M6).kept (Below.refl _ _).drew).base (by omega), K9.trans (Below.refl _ _).drew⟩)
end Go.Proofs.YtgnpllpinfhccaaGreatDoor
namespace Go.Proofs.YtgnpllpinfhccaaGreatDoor
open Go.RowKit
attribute [local go_sem] Plain.and7
set_option linter.unusedSimpArgs false
theorem box4c {w u : World} {A B : Nat} {v0 : Value} (hA : Cells u A 26 #[v0]) (hB : Cells u B 101 #[.int .i64 0, .slice none 0 0, .slice none 0 0, .int .i64 0]) (r : Cells u (w.heap.size + 1) 26 #[.slice none 0 0]) (k : Kept w u) (hb4 : w.heap.size + 2 ≤ B) (v1 v2 v3 v4 : Value) :
    Kept w ((((u.setCell ⟨B, 0, none⟩ v1).setCell ⟨B, 1, none⟩ v2).setCell ⟨B, 2, none⟩ v3).setCell ⟨B, 3, none⟩ v4) ∧ Cells ((((u.setCell ⟨B, 0, none⟩ v1).setCell ⟨B, 1, none⟩ v2).setCell ⟨B, 2, none⟩ v3).setCell ⟨B, 3, none⟩ v4) (w.heap.size + 1) 26 #[.slice none 0 0] ∧ Cells ((((u.setCell ⟨B, 0, none⟩ v1).setCell ⟨B, 1, none⟩ v2).setCell ⟨B, 2, none⟩ v3).setCell ⟨B, 3, none⟩ v4) A 26 #[v0] ∧ Cells ((((u.setCell ⟨B, 0, none⟩ v1).setCell ⟨B, 1, none⟩ v2).setCell ⟨B, 2, none⟩ v3).setCell ⟨B, 3, none⟩ v4) B 101 #[v1, v2, v3, v4] ∧ (∀ base v l, OwnR u base v l → OwnR ((((u.setCell ⟨B, 0, none⟩ v1).setCell ⟨B, 1, none⟩ v2).setCell ⟨B, 2, none⟩ v3).setCell ⟨B, 3, none⟩ v4) base v l) := by
  have hab : A ≠ B := box_ne hA hB (by decide)
  refine ⟨(((k.set (by simp; omega) _).set (by simp; omega) _).set (by simp; omega) _).set (by simp; omega) _,
    (((r.other (by simp; omega) _).other (by simp; omega) _).other (by simp; omega) _).other (by simp; omega) _,
    (((hA.other (by simpa using hab) _).other (by simpa using hab) _).other (by simpa using hab) _).other (by simpa using hab) _,
    hB.four v1 v2 v3 v4, fun base v l h => ?_⟩
  exact (((h.apart hB (by decide)).apart (hB.set 0 v1) (by decide)).apart ((hB.set 0 v1).set 1 v2) (by decide)).apart (((hB.set 0 v1).set 1 v2).set 2 v3) (by decide)
set_option maxHeartbeats 32000000 in
set_option maxRecDepth 100000 in
theorem spec_Collect_ok (w : World) (ao ro : Option Addr) (cap rc : Nat) (zs rs : List Int) (hI : Ints w ao zs) (hl : zs.length ≤ 1048576) (hR : Ints w ro rs) (hrl : rs.length ≤ 1048576) :
    Calls Tryz.prog 47 #[.agg #[.slice ao zs.length cap], .slice ro rs.length rc] w fun e w' => ∃ v, e = .returned (.agg #[v]) ∧ OwnR w' w.heap.size v (collL zs rs) ∧ Kept w w' := by
  have x0 := (Cells.new w 26 #[.slice ao zs.length cap]).alloc (.cells #[.slice none 0 0] 26)
  have x1 := Cells.new (w.alloc (.cells #[.slice ao zs.length cap] 26)) 26 #[.slice none 0 0]
  simp only [World.size_alloc] at x1
  have k0 : Kept w ((w.alloc (.cells #[.slice ao zs.length cap] 26)).alloc (.cells #[.slice none 0 0] 26)) := (Kept.alloc (Below.refl _ _) _).alloc _
  have hs0 : ((w.alloc (.cells #[.slice ao zs.length cap] 26)).alloc (.cells #[.slice none 0 0] 26)).heap.size = w.heap.size + 2 := by simp
  have hRo := spec_RootsOk_ok _ ao ro cap rc zs rs (hI.kept k0) hl (hR.kept k0) hrl
  have HSt : Hid _ := fun (u : World) (hu : Kept w u) => spec_Start_ok u ao ro cap rc zs rs (hI.kept hu) hl (hR.kept hu) hrl
  have HIs : Hid (∀ u, Kept w u → Ints u ao zs) := fun u hu => hI.kept hu
  have c00 := x0.cell 0
  have HS0 : Hid (∀ u, Kept ((w.alloc (.cells #[.slice ao zs.length cap] 26)).alloc (.cells #[.slice none 0 0] 26)) u → u.cell? ⟨w.heap.size, 0, none⟩ = some (.slice ao zs.length cap) ∧ Cells u (w.heap.size + 1) 26 #[.slice none 0 0] ∧ Kept w u ∧ w.heap.size + 2 ≤ u.heap.size) := fun u hu => ⟨(x0.kept hu).cell 0, x1.kept hu, k0.trans hu, by have := hu.size; rw [hs0] at this; exact this⟩
  cases hr : rootsR zs rs with
  | false =>
    have HR : Hid (collL zs rs = []) := by simp [Hid, collL, hr]
    rw [hr] at hRo
    clear hr hI hR hs0 x0 x1
    go_enter Tryz.func47, Tryz.ntmps47
    go_wp2_with (go_at_call 36; refine hRo.mono ?_; rintro e w1 ⟨rfl, hk1⟩; obtain ⟨d0, r1, K1, hs1⟩ := HS0.out _ hk1; have e0 := r1.cell 0; have f0 := r1.frozen 0; have l0 := r1.lt)
    have q := (r1.set1 (.slice none 0 0)).cell 0
    refine bodyPost_ret (v := .agg #[.slice none 0 0]) (by simp [results, Tryz.results47, go_sem, q]) rfl ⟨_, rfl, by rw [HR.out]; exact .inl ⟨rfl, rfl⟩, K1.set (by simp) _⟩
  | true =>
    have hsl := startC_lenJ (zs := zs) (rs := rs)
    have HSw : ∀ (u : World) (hu : Kept w u) (ga3 ba3 : Option Addr) (gc3 bc3 c1 c2 : Nat), OwnL u c1 (.slice ga3 (startC zs rs).2.length gc3) (startC zs rs).2 → OwnL u c2 (.slice ba3 ([] : List Int).length bc3) [] → Calls Tryz.prog 76 #[.agg #[.slice ao zs.length cap], .agg #[.int .i64 (startC zs rs).1, .slice ga3 (startC zs rs).2.length gc3, .slice ba3 ([] : List Int).length bc3, .int .i64 0]] u fun e w' => ∃ v m, e = .returned (.tuple #[.agg #[v], m]) ∧ OwnR w' u.heap.size v (sweepC zs (startC zs rs).1 (startC zs rs).2 [] 0).1 ∧ MkO w' u.heap.size m (sweepC zs (startC zs rs).1 (startC zs rs).2 [] 0).2.1 (sweepC zs (startC zs rs).1 (startC zs rs).2 [] 0).2.2.1 (sweepC zs (startC zs rs).1 (startC zs rs).2 [] 0).2.2.2.1 (sweepC zs (startC zs rs).1 (startC zs rs).2 [] 0).2.2.2.2 ∧ Kept u w' := fun u hu ga3 ba3 gc3 bc3 c1 c2 h1 h2 => spec_Sweep_ok u c1 c2 ao ga3 ba3 cap gc3 bc3 zs _ _ _ _ (HIs.out u hu) hl h1 h2 (by omega) (by simp)
    have HR : Hid (collL zs rs = (sweepC zs (startC zs rs).1 (startC zs rs).2 [] 0).1) := by simp [Hid, collL, hr]
    rw [hr] at hRo
    have HSu := HSt.out
    rw [Hid] at HR
    rw [HR]
    clear hr hI hR hs0 x0 x1 HSt HIs hsl HR
    generalize (sweepC zs (startC zs rs).1 (startC zs rs).2 [] 0).1 = zs9 at HSw ⊢
    generalize (sweepC zs (startC zs rs).1 (startC zs rs).2 [] 0).2.1 = ph9 at HSw
    generalize (sweepC zs (startC zs rs).1 (startC zs rs).2 [] 0).2.2.1 = gs9 at HSw
    generalize (sweepC zs (startC zs rs).1 (startC zs rs).2 [] 0).2.2.2.1 = bs9 at HSw
    generalize (sweepC zs (startC zs rs).1 (startC zs rs).2 [] 0).2.2.2.2 = at9 at HSw
    generalize (startC zs rs).1 = ph3 at HSw HSu
    generalize (startC zs rs).2 = gs3 at HSw HSu
    have HSS2 : Hid _ := HSw
    have HSt : Hid _ := HSu
    clear HSw HSu
    go_enter Tryz.func47, Tryz.ntmps47
    go_upto_region 3 with (first | (go_at_call 36; refine hRo.mono ?_; rintro e w1 ⟨rfl, hk1⟩; obtain ⟨d0, r1, K1, hs1⟩ := HS0.out _ hk1))
    go_wp2_with fail
    obtain ⟨wd, hwd⟩ : ∃ x, World.drew w1 = x := ⟨_, rfl⟩
    have HKW : Hid (Kept ((w.alloc (.cells #[.slice ao zs.length cap] 26)).alloc (.cells #[.slice none 0 0] 26)) wd) := by rw [Hid, ← hwd]; exact hk1.trans (Below.refl _ _).drew
    have HWD : Hid (Kept wd (World.drew w1)) := by rw [Hid, ← hwd]; exact Below.refl _ _
    have hsw := (HS0.out _ HKW.out).2.2.2
    clear hwd c00 d0 r1 K1 hs1
    refine wp_region_told 11 (twoT wd (.agg #[.slice ao zs.length cap]) (.agg #[.slice ao zs.length cap]) (.slice ro rs.length rc) ph3 gs3 [] 0 zs9 ph9 gs9 bs9 at9) twoD (by kernel_rfl) (by kernel_rfl) (by decide) (by kernel_rfl) (by kernel_rfl) (twoT_own (by kernel_rfl) (by kernel_rfl) (by kernel_rfl) (by kernel_rfl) (by kernel_rfl)) HWD.out ?_ ?_
    · intro i hi vs
      rcases (show i = 0 ∨ i = 1 ∨ i = 2 ∨ i = 3 ∨ i = 4 ∨ i = 5 ∨ i = 6 ∨ i = 7 ∨ i = 8 ∨ i = 9 ∨ i = 10 by omega) with rfl | rfl | rfl | rfl | rfl | rfl | rfl | rfl | rfl | rfl | rfl
      · refine ⟨_, rfl, fun u hu hd => .inl ⟨(.agg #[.slice ao zs.length cap]), u, ?_, hu, by simp [twoT, vsX], (fun j _ _ _ h => h)⟩⟩
        obtain ⟨d0, _, Ku, hsu⟩ := HS0.out _ (HKW.out.trans hu)
        simp only [frR, dstAt, List.getElem?_toArray, List.getElem?_cons_zero, List.getElem?_cons_succ, Option.bind_some, Act.put, List.setIfInBounds_toArray, List.set_cons_zero, List.set_cons_succ]; go_simp; first | done | exact rfl
      · refine ⟨_, rfl, fun u hu hd => .inl ⟨(.agg #[.slice ao zs.length cap]), u, ?_, hu, by simp [twoT, vsX], (fun j _ _ _ h => h)⟩⟩
        obtain ⟨d0, _, Ku, hsu⟩ := HS0.out _ (HKW.out.trans hu)
        simp only [frR, dstAt, List.getElem?_toArray, List.getElem?_cons_zero, List.getElem?_cons_succ, Option.bind_some, Act.put, List.setIfInBounds_toArray, List.set_cons_zero, List.set_cons_succ]; go_simp; first | done | exact rfl
      · refine ⟨_, rfl, fun u hu hd => .inl ⟨(.slice ro rs.length rc), u, ?_, hu, by simp [twoT, vsX], (fun j _ _ _ h => h)⟩⟩
        simp only [frR, dstAt, List.getElem?_toArray, List.getElem?_cons_zero, List.getElem?_cons_succ, Option.bind_some, Act.put, List.setIfInBounds_toArray, List.set_cons_zero, List.set_cons_succ]; go_simp; first | done | exact rfl
      · refine ⟨_, rfl, fun u hu hd => .inr (.inl ⟨77, #[(.agg #[.slice ao zs.length cap]), (.slice ro rs.length rc)], ?_, ?_⟩)⟩
        · have e1 : vs 1 = (.agg #[.slice ao zs.length cap]) := hd 1 (by kernel_rfl)
          have e2 : vs 2 = (.slice ro rs.length rc) := hd 2 (by kernel_rfl)
          simp only [frR, dstAt, List.getElem?_toArray, List.getElem?_cons_zero, List.getElem?_cons_succ, Option.bind_some, Act.put, List.setIfInBounds_toArray, List.set_cons_zero, List.set_cons_succ]; simp only [e1, e2]; go_simp; first | done | exact rfl
        · obtain ⟨d0, _, Ku, hsu⟩ := HS0.out _ (HKW.out.trans hu)
          refine (HSt.out _ Ku).mono ?_
          rintro e w3 ⟨m3, rfl, hM3, hk3⟩
          exact ⟨_, rfl, hu.trans hk3, (by simpa [twoT, vsX] using hM3.base (by have := hu.size; omega)), (fun j _ _ _ h => twoT_kept hk3 j vs h)⟩
      · refine ⟨_, rfl, fun u hu hd => ?_⟩
        have e0 : vs 0 = (.agg #[.slice ao zs.length cap]) := hd 0 (by kernel_rfl)
        have hM : MkO u wd.heap.size (vs 3) ph3 gs3 [] 0 := hd 3 (by kernel_rfl)
        obtain ⟨ga3, ba3, gc3, bc3, e3, og3, ob3, hn3, _, _⟩ := mkO_two' hM
        refine .inr (.inl ⟨76, #[(.agg #[.slice ao zs.length cap]), .agg #[.int .i64 ph3, .slice ga3 gs3.length gc3, .slice ba3 ([] : List Int).length bc3, .int .i64 0]], ?_, ?_⟩)
        · simp only [frR, dstAt, List.getElem?_toArray, List.getElem?_cons_zero, List.getElem?_cons_succ, Option.bind_some, Act.put, List.setIfInBounds_toArray, List.set_cons_zero, List.set_cons_succ]; simp only [e0, e3]; go_simp; first | done | exact rfl
        · obtain ⟨d0, _, Ku, hsu⟩ := HS0.out _ (HKW.out.trans hu)
          refine (HSS2.out _ Ku ga3 ba3 gc3 bc3 _ _ og3 ob3).mono ?_
          rintro e w4 ⟨v4, m4, rfl, hO4, hM4, hk4⟩
          obtain ⟨va, vc, rfl, _⟩ := hO4.ints
          exact ⟨_, rfl, hu.trans hk4, ⟨va, _, vc, m4, if_pos rfl, hO4.base (by have := hu.size; omega), hM4.base (by have := hu.size; omega)⟩, (fun j _ _ _ h => twoT_kept hk4 j vs h)⟩
      · refine ⟨_, rfl, fun u hu hd => ?_⟩
        obtain ⟨va, vn, vc, m, e4, _, _⟩ : ∃ va vn vc m, vs 4 = .tuple #[.agg #[.slice va vn vc], m] ∧ OwnR u wd.heap.size (.slice va vn vc) _ ∧ MkO u wd.heap.size m _ _ _ _ := hd 4 (by kernel_rfl)
        refine .inl ⟨.tuple #[.agg #[.slice va vn vc], m], u, ?_, hu, ⟨va, vn, vc, m, by simp [vsX, e4], by simp [vsX]⟩, (fun j _ _ _ h => h)⟩
        simp only [frR, dstAt, List.getElem?_toArray, List.getElem?_cons_zero, List.getElem?_cons_succ, Option.bind_some, Act.put, List.setIfInBounds_toArray, List.set_cons_zero, List.set_cons_succ]; simp only [e4]; go_simp; first | done | exact rfl
      · refine ⟨_, rfl, fun u hu hd => ?_⟩
        obtain ⟨va, vn, vc, m, _, e5⟩ : ∃ va vn vc m, vs 4 = .tuple #[.agg #[.slice va vn vc], m] ∧ vs 5 = .tuple #[.agg #[.slice va vn vc], m] := hd 5 (by kernel_rfl)
        refine .inl ⟨.agg #[.slice va vn vc], u, ?_, hu, ⟨va, vn, vc, m, by simp [vsX, e5], by simp [vsX]⟩, (fun j _ _ _ h => h)⟩
        simp only [frR, dstAt, List.getElem?_toArray, List.getElem?_cons_zero, List.getElem?_cons_succ, Option.bind_some, Act.put, List.setIfInBounds_toArray, List.set_cons_zero, List.set_cons_succ]; simp only [e5]; go_simp; first | done | exact rfl
      · refine ⟨_, rfl, fun u hu hd => ?_⟩
        obtain ⟨va, vn, vc, m, _, e5⟩ : ∃ va vn vc m, vs 4 = .tuple #[.agg #[.slice va vn vc], m] ∧ vs 5 = .tuple #[.agg #[.slice va vn vc], m] := hd 5 (by kernel_rfl)
        refine .inl ⟨m, u, ?_, hu, ⟨va, vn, vc, m, by simp [vsX, e5], by simp [vsX]⟩, (fun j _ _ _ h => h)⟩
        simp only [frR, dstAt, List.getElem?_toArray, List.getElem?_cons_zero, List.getElem?_cons_succ, Option.bind_some, Act.put, List.setIfInBounds_toArray, List.set_cons_zero, List.set_cons_succ]; simp only [e5]; go_simp; first | done | exact rfl
      · refine ⟨_, rfl, fun u hu hd => .inl ⟨.pointer (some ⟨u.heap.size, 0, none⟩), u.alloc (.cells #[.slice none 0 0] 26), ?_, Kept.alloc hu _, ⟨u.heap.size, by simp [vsX], hu.size, Cells.new _ _ _⟩, (fun j _ _ _ h => twoT_kept (Kept.alloc (Below.refl _ _) _) j vs h)⟩⟩
        simp only [frR, dstAt, List.getElem?_toArray, List.getElem?_cons_zero, List.getElem?_cons_succ, Option.bind_some, Act.put, List.setIfInBounds_toArray, List.set_cons_zero, List.set_cons_succ]; go_simp; first | done | exact rfl
      · refine ⟨_, rfl, fun u hu hd => .inl ⟨.pointer (some ⟨u.heap.size, 0, none⟩), u.alloc (.cells #[.int .i64 0, .slice none 0 0, .slice none 0 0, .int .i64 0] 101), ?_, Kept.alloc hu _, ⟨u.heap.size, by simp [vsX], hu.size, Cells.new _ _ _⟩, (fun j _ _ _ h => twoT_kept (Kept.alloc (Below.refl _ _) _) j vs h)⟩⟩
        simp only [frR, dstAt, List.getElem?_toArray, List.getElem?_cons_zero, List.getElem?_cons_succ, Option.bind_some, Act.put, List.setIfInBounds_toArray, List.set_cons_zero, List.set_cons_succ]; go_simp; first | done | exact rfl
      · refine ⟨_, rfl, fun u hu hd => ?_⟩
        obtain ⟨A, e8, hA9, hC9⟩ : ∃ A, vs 8 = .pointer (some ⟨A, 0, none⟩) ∧ wd.heap.size ≤ A ∧ Cells u A 26 #[.slice none 0 0] := hd 8 (by kernel_rfl)
        obtain ⟨va, vn, vc, m, _, e6⟩ : ∃ va vn vc m, vs 5 = .tuple #[.agg #[.slice va vn vc], m] ∧ vs 6 = .agg #[.slice va vn vc] := hd 6 (by kernel_rfl)
        have x0 := hC9.cell 0
        have x1 := hC9.frozen 0
        have x2 := hC9.lt
        refine .inr (.inr ⟨u.setCell ⟨A, 0, none⟩ (.slice va vn vc), ?_, hu.set (by simpa using hA9) _, ⟨A, va, vn, vc, by simp [vsX, e8], by simp [vsX, e6], hA9, hC9.set1 _⟩, fun j hj _ hD h => twoT_store hC9 j vs hj hD h⟩)
        simp only [frR, dstAt, List.getElem?_toArray, List.getElem?_cons_zero, List.getElem?_cons_succ, Option.bind_some, Act.put, List.setIfInBounds_toArray, List.set_cons_zero, List.set_cons_succ]; simp only [e8, e6]; go_simp; first | done | exact rfl
    · intro vs u hu
      simp only [List.drop_succ_cons, List.drop_zero, seqWp]
      simp only [frR, dstAt, List.getElem?_toArray, List.getElem?_cons_zero, List.getElem?_cons_succ, Option.bind_some, Act.put, List.setIfInBounds_toArray, List.set_cons_zero, List.set_cons_succ]
      intro hR
      obtain ⟨va, vn, vc, m, e5, hO, hM⟩ := hR 4 (by decide) (fun k _ => by simp [twoD])
      obtain ⟨va6, vn6, vc6, m6, e56, e6⟩ := hR 5 (by decide) (fun k _ => by simp [twoD])
      obtain ⟨va7, vn7, vc7, m7, e67, e7⟩ := hR 6 (by decide) (fun k _ => by simp [twoD])
      obtain ⟨va8, vn8, vc8, m8, e68, e8⟩ := hR 7 (by decide) (fun k _ => by simp [twoD])
      obtain ⟨B, e10, hB10, hCB⟩ := hR 9 (by decide) (fun k _ => by simp [twoD])
      obtain ⟨A, vaA, vnA, vcA, e9, e79, hA9, hCA⟩ := hR 10 (by decide) (fun k _ => by simp [twoD])
      rw [e5] at e56
      rw [e6] at e67 e68
      rw [e7] at e79
      simp at e56 e67 e68 e79
      obtain ⟨⟨rfl, rfl, rfl⟩, rfl⟩ := e56
      obtain ⟨⟨rfl, rfl, rfl⟩, rfl⟩ := e67
      obtain ⟨⟨rfl, rfl, rfl⟩, rfl⟩ := e68
      obtain ⟨rfl, rfl, rfl⟩ := e79
      clear e5 e6 hR
      obtain ⟨ga9, ba9, gc9, bc9, rfl, _, _, _, _, _⟩ := mkO_two' hM
      obtain ⟨_, r3, K3, hs3⟩ := HS0.out _ (HKW.out.trans hu)
      obtain ⟨K6, r6, cA6, cB6, hO6⟩ := box4c hCA hCB r3 K3 (by omega) (.int .i64 ph9) (.slice ga9 gs9.length gc9) (.slice ba9 bs9.length bc9) (.int .i64 at9)
      have b0 := hCB.cell 0
      have b1 := hCB.cell 1
      have b2 := hCB.cell 2
      have b3 := hCB.cell 3
      have t0 := hCB.frozen 0
      have t1 := hCB.frozen 1
      have t2 := hCB.frozen 2
      have t3 := hCB.frozen 3
      have tl := hCB.lt
      simp only [e7, e8, e9, e10]
      unfold Oper.wp
      go_simp
      obtain ⟨U, hU⟩ : ∃ U, ((((u.setCell ⟨B, 0, none⟩ (.int .i64 ph9)).setCell ⟨B, 1, none⟩ (.slice ga9 gs9.length gc9)).setCell ⟨B, 2, none⟩ (.slice ba9 bs9.length bc9)).setCell ⟨B, 3, none⟩ (.int .i64 at9)) = U := ⟨_, rfl⟩
      rw [hU] at K6 r6  cA6 cB6 hO6
      rw [hU]
      have O6 := hO6 _ _ _ hO
      clear hU hO6 hO hM b0 b1 b2 b3 t0 t1 t2 t3 tl hCA hCB r3 K3 e7 e8 e9 e10
      have a0 := cA6.cell 0
      have e0 := r6.cell 0; have f0 := r6.frozen 0; have l0 := r6.lt
      go_wp2_with fail
      have q := (r6.set1 (.slice va vn vc)).cell 0
      refine bodyPost_ret (v := .agg #[.slice va vn vc]) (by simp [results, Tryz.results47, go_sem, q]) rfl ⟨_, rfl, ((O6.far (p := ⟨w.heap.size + 1, 0, none⟩) (by simp; omega))).base (by omega), K6.set (by simp) _⟩
end Go.Proofs.YtgnpllpinfhccaaGreatDoor
namespace Go.Proofs.YtgnpllpinfhccaaGreatDoor
open Go.RowKit
attribute [local go_sem] Plain.and7

theorem slidL_lenM {zs : List Int} : (slidL zs).length = zs.length := by
  have h1 := slidW_le zs
  unfold slidL
  rw [List.length_append, restW_len]
  omega
theorem slideC_leM (zs rs : List Int) : (slideC zs rs).1.length ≤ zs.length ∧ (slideC zs rs).2.length ≤ rs.length := by
  unfold slideC
  split
  · simp [slidL_lenM]
  · simp
theorem OwnL.baseM {W : World} {base base' : Nat} {v : Value} {zs : List Int} (h : OwnL W base v zs) (hb : base' ≤ base) : OwnL W base' v zs := ⟨h.1, ownsRow_base h.2 hb⟩
set_option maxHeartbeats 16000000 in
set_option maxRecDepth 100000 in
theorem spec_Tidy_ok (w : World) (ao ro : Option Addr) (cap rc : Nat) (zs rs : List Int) (hI : Ints w ao zs) (hl : zs.length ≤ 1048576) (hR : Ints w ro rs) (hrl : rs.length ≤ 1048576) :
    Calls Tryz.prog 26 #[.agg #[.slice ao zs.length cap], .slice ro rs.length rc] w fun e w' => ∃ v rv ys qs, e = .returned (.tuple #[.agg #[v], rv]) ∧ OwnL w' w.heap.size v ys ∧ OwnL w' w.heap.size rv qs ∧ ys.length ≤ zs.length ∧ qs.length ≤ rs.length ∧ Kept w w' := by
  have x0 := (Cells.new w 26 #[.slice ao zs.length cap]).alloc (.cells #[.slice none 0 0] 26)
  have x1 := Cells.new (w.alloc (.cells #[.slice ao zs.length cap] 26)) 26 #[.slice none 0 0]
  simp only [World.size_alloc] at x1
  have k0 : Kept w ((w.alloc (.cells #[.slice ao zs.length cap] 26)).alloc (.cells #[.slice none 0 0] 26)) := (Kept.alloc (Below.refl _ _) _).alloc _
  have hs0 : ((w.alloc (.cells #[.slice ao zs.length cap] 26)).alloc (.cells #[.slice none 0 0] 26)).heap.size = w.heap.size + 2 := by simp
  have hRo := spec_RootsOk_ok _ ao ro cap rc zs rs (hI.kept k0) hl (hR.kept k0) hrl
  have HCo : Hid _ := fun (u : World) (hu : Kept w u) => spec_Collect_ok u ao ro cap rc zs rs (hI.kept hu) hl (hR.kept hu) hrl
  have HRs : Hid (∀ u, Kept w u → Ints u ro rs) := fun u hu => hR.kept hu
  have c00 := x0.cell 0
  have HS0 : Hid (∀ u, Kept ((w.alloc (.cells #[.slice ao zs.length cap] 26)).alloc (.cells #[.slice none 0 0] 26)) u → u.cell? ⟨w.heap.size, 0, none⟩ = some (.slice ao zs.length cap) ∧ Cells u (w.heap.size + 1) 26 #[.slice none 0 0] ∧ Kept w u ∧ w.heap.size + 2 ≤ u.heap.size) := fun u hu => ⟨(x0.kept hu).cell 0, x1.kept hu, k0.trans hu, by have := hu.size; rw [hs0] at this; exact this⟩
  cases hr : rootsR zs rs with
  | false =>
    rw [hr] at hRo
    clear hr hI hR hs0 x0 x1 HCo HRs
    go_enter Tryz.func26, Tryz.ntmps26
    go_wp2_with (go_at_call 36; refine hRo.mono ?_; rintro e w1 ⟨rfl, hk1⟩; obtain ⟨d0, r1, K1, hs1⟩ := HS0.out _ hk1; have e0 := r1.cell 0; have f0 := r1.frozen 0; have l0 := r1.lt)
    have q := ((r1.set1 (.slice none 0 0)).alloc (.cells #[] 3)).cell 0
    refine bodyPost_ret (v := .tuple #[.agg #[.slice none 0 0], .slice (some ⟨w1.heap.size, 0, none⟩) 0 0]) (by simp [results, Tryz.results26, go_sem, q]) rfl ⟨_, _, [], [], rfl, ⟨by simp, World.ownsRow_nil _ _ _ _⟩, ⟨by simp, ?_⟩, by simp, by simp, (K1.set (by simp) _).alloc _⟩
    have := World.ownsRow_made (base := w1.heap.size) (e := 3) (size := 1) (w1.setCell ⟨w.heap.size + 1, 0, none⟩ (.slice none 0 0)) #[] 0 (by simp [World.setCell]) (by unfold maxLen; omega) (by simp)
    exact ownsRow_base (by simpa [World.setCell] using this) K1.size
  | true =>
    have hcl := collL_len zs rs
    have hle := slideC_leM (collL zs rs) rs
    have HSl : ∀ (u : World) (hu : Kept w u) (co : Option Addr) (cc : Nat), Ints u co (collL zs rs) → Calls Tryz.prog 46 #[.agg #[.slice co (collL zs rs).length cc], .slice ro rs.length rc] u fun e w' => ∃ v rv, e = .returned (.tuple #[.agg #[v], rv]) ∧ OwnL w' u.heap.size v (slideC (collL zs rs) rs).1 ∧ OwnL w' u.heap.size rv (slideC (collL zs rs) rs).2 ∧ Kept u w' := fun u hu co cc hc => spec_Slide_ok u co ro cc rc _ rs hc (by omega) (HRs.out u hu) hrl
    have HCp := HCo.out
    rw [hr] at hRo
    clear HCo HRs hr hI hR hs0 x0 x1
    generalize (slideC (collL zs rs) rs).1 = ys at HSl hle
    generalize (slideC (collL zs rs) rs).2 = qs at HSl hle
    generalize collL zs rs = cs at HSl hle HCp hcl
    have HL : Hid (ys.length ≤ zs.length ∧ qs.length ≤ rs.length) := ⟨by omega, hle.2⟩
    have HCo : Hid _ := HCp
    have HSs : Hid _ := HSl
    clear HCp HSl hcl hle
    go_enter Tryz.func26, Tryz.ntmps26
    go_wp2_with (first | (go_at_call 36; refine hRo.mono ?_; rintro e w1 ⟨rfl, hk1⟩; obtain ⟨d0, r1, K1, hs1⟩ := HS0.out _ hk1) | (go_at_call 47; refine (HCo.out _ K1).mono ?_; rintro e w2 ⟨v2, rfl, hO2, hk2⟩; obtain ⟨ca, cc, rfl, hI2⟩ := hO2.ints; obtain ⟨d0, r2, K2, hs2⟩ := HS0.out _ (hk1.trans hk2)) | (go_at_call 46; refine (HSs.out _ K2 ca cc hI2).mono ?_; rintro e w3 ⟨v3, rv3, rfl, o3, p3, hk3⟩; obtain ⟨sa, sc, rfl, _⟩ := o3.ints; obtain ⟨ma, mc, rfl, _⟩ := p3.ints; obtain ⟨d0, r3, K3, hs3⟩ := HS0.out _ ((hk1.trans hk2).trans hk3); have e0 := r3.cell 0; have f0 := r3.frozen 0; have l0 := r3.lt))
    have q := ((r3.set1 (.slice sa ys.length sc)).alloc (.cells #[.slice sa ys.length sc] 26)).cell 0
    refine bodyPost_ret (v := .tuple #[.agg #[.slice sa ys.length sc], .slice ma qs.length mc]) (by simp [results, Tryz.results26, go_sem, q]) rfl ⟨_, _, ys, qs, rfl, ?_, ?_, HL.out.1, HL.out.2, (K3.set (by simp) _).alloc _⟩
    · exact OwnL.kept (row := none) (((OwnL.far o3 (p := ⟨w.heap.size + 1, 0, none⟩) (u := .slice sa ys.length sc) (fun j hj => by have := (o3.2.lt j hj).1; simp; omega)).baseM (by omega))) (Kept.alloc (Below.refl _ _) _).grown (fun _ e => by cases e)
    · exact OwnL.kept (row := none) (((OwnL.far p3 (p := ⟨w.heap.size + 1, 0, none⟩) (u := .slice sa ys.length sc) (fun j hj => by have := (p3.2.lt j hj).1; simp; omega)).baseM (by omega))) (Kept.alloc (Below.refl _ _) _).grown (fun _ e => by cases e)
end Go.Proofs.YtgnpllpinfhccaaGreatDoor
