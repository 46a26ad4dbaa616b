/-
  The contracts of chapter 13's writers: whether S and N are what an op has; how many kids, and where they stand (genWr.py).
  The contracts of chapter 13's writers, op by op (genWr.py).
-/
import Derived.Laws.EntriesVeiled
import Derived.Test.YtlinbkgeahgkjaaGreatDoorGrpRd
import Derived.Test.YtlinbkgeahgkjaaGreatDoorZOkP
namespace Go.Proofs.YtlinbkgeahgkjaaGreatDoor
open Go.RowKit
set_option linter.unusedSimpArgs false

set_option maxHeartbeats 8000000 in
set_option maxRecDepth 100000 in
theorem hasName_ok (w : World) (hE : EnvA w) (op n : Int) (s : ByteArray) (ao : Option Addr) (l cap : Nat) (hs : s.size ≤ 1048576) :
    Calls Tryz.prog 53 #[.agg #[.int .i64 op, .string s, .int .i64 n, .slice ao l cap]] w fun e w' => e = .returned (.bool (decide (n = 0) && nameR s false)) ∧ Kept w w' := by
  have b0 := Cells.new w 29 #[.int .i64 op, .string s, .int .i64 n, .slice ao l cap]
  have k0 : Kept w (w.alloc (.cells #[.int .i64 op, .string s, .int .i64 n, .slice ao l cap] 29)) := Kept.alloc (Below.refl _ _) _
  have c1 := b0.cell 1; have c2 := b0.cell 2
  simp at c1 c2
  have hC := isName_ok _ (hE.kept k0) s hs
  obtain ⟨x, hx⟩ : ∃ x, nameR s false = x := ⟨_, rfl⟩
  rw [hx] at hC
  rw [hx]
  clear hx hE
  cases x
  · have HX : Hid ((decide (n = 0) && false) = false) := by simp [Hid]
    go_enter Tryz.func53, Tryz.ntmps53
    go_wp2_with (go_at_call 69; refine hC.mono ?_; rintro e w1 ⟨rfl, hk1⟩)
    go_ret
    exact ⟨by rw [HX.out]; rfl, k0.trans hk1⟩
  · by_cases hn : n = 0
    · subst hn
      go_enter Tryz.func53, Tryz.ntmps53
      go_wp2_with (go_at_call 69; refine hC.mono ?_; rintro e w1 ⟨rfl, hk1⟩; have y := b0.kept hk1; have c2 := y.cell 2; simp at c2)
      go_ret
      exact ⟨rfl, k0.trans hk1⟩
    · have q : (n == 0) = false := by simpa using hn
      rw [decide_eq_false hn]
      clear hn
      go_enter Tryz.func53, Tryz.ntmps53
      go_wp2_with (go_at_call 69; refine hC.mono ?_; rintro e w1 ⟨rfl, hk1⟩; have y := b0.kept hk1; have c2 := y.cell 2; simp at c2)
      go_ret
      exact ⟨rfl, k0.trans hk1⟩
set_option maxHeartbeats 8000000 in
set_option maxRecDepth 100000 in
theorem hasProperty_ok (w : World) (hE : EnvA w) (op n : Int) (s : ByteArray) (ao : Option Addr) (l cap : Nat) (hs : s.size ≤ 1048576) :
    Calls Tryz.prog 57 #[.agg #[.int .i64 op, .string s, .int .i64 n, .slice ao l cap]] w fun e w' => e = .returned (.bool (decide (n = 0) && nameR s true)) ∧ Kept w w' := by
  have b0 := Cells.new w 29 #[.int .i64 op, .string s, .int .i64 n, .slice ao l cap]
  have k0 : Kept w (w.alloc (.cells #[.int .i64 op, .string s, .int .i64 n, .slice ao l cap] 29)) := Kept.alloc (Below.refl _ _) _
  have c1 := b0.cell 1; have c2 := b0.cell 2
  simp at c1 c2
  have hC := isProperty_ok _ (hE.kept k0) s hs
  obtain ⟨x, hx⟩ : ∃ x, nameR s true = x := ⟨_, rfl⟩
  rw [hx] at hC
  rw [hx]
  clear hx hE
  cases x
  · have HX : Hid ((decide (n = 0) && false) = false) := by simp [Hid]
    go_enter Tryz.func57, Tryz.ntmps57
    go_wp2_with (go_at_call 70; refine hC.mono ?_; rintro e w1 ⟨rfl, hk1⟩)
    go_ret
    exact ⟨by rw [HX.out]; rfl, k0.trans hk1⟩
  · by_cases hn : n = 0
    · subst hn
      go_enter Tryz.func57, Tryz.ntmps57
      go_wp2_with (go_at_call 70; refine hC.mono ?_; rintro e w1 ⟨rfl, hk1⟩; have y := b0.kept hk1; have c2 := y.cell 2; simp at c2)
      go_ret
      exact ⟨rfl, k0.trans hk1⟩
    · have q : (n == 0) = false := by simpa using hn
      rw [decide_eq_false hn]
      clear hn
      go_enter Tryz.func57, Tryz.ntmps57
      go_wp2_with (go_at_call 70; refine hC.mono ?_; rintro e w1 ⟨rfl, hk1⟩; have y := b0.kept hk1; have c2 := y.cell 2; simp at c2)
      go_ret
      exact ⟨rfl, k0.trans hk1⟩
set_option maxHeartbeats 8000000 in
set_option maxRecDepth 100000 in
theorem hasText_ok (w : World) (op n : Int) (s : ByteArray) (ao : Option Addr) (l cap : Nat) (hs : s.size ≤ 1048576) :
    Calls Tryz.prog 74 #[.agg #[.int .i64 op, .string s, .int .i64 n, .slice ao l cap]] w fun e w' => e = .returned (.bool (decide (n = 0) && textR s)) ∧ Kept w w' := by
  have b0 := Cells.new w 29 #[.int .i64 op, .string s, .int .i64 n, .slice ao l cap]
  have k0 : Kept w (w.alloc (.cells #[.int .i64 op, .string s, .int .i64 n, .slice ao l cap] 29)) := Kept.alloc (Below.refl _ _) _
  have c1 := b0.cell 1; have c2 := b0.cell 2
  simp at c1 c2
  have hC := isQuotable_ok (w.alloc (.cells #[.int .i64 op, .string s, .int .i64 n, .slice ao l cap] 29)) s hs
  obtain ⟨x, hx⟩ : ∃ x, textR s = x := ⟨_, rfl⟩
  rw [hx] at hC
  rw [hx]
  clear hx
  cases x
  · have HX : Hid ((decide (n = 0) && false) = false) := by simp [Hid]
    go_enter Tryz.func74, Tryz.ntmps74
    go_wp2_with (go_at_call 96; refine hC.mono ?_; rintro e w1 ⟨rfl, hk1⟩)
    go_ret
    exact ⟨by rw [HX.out]; rfl, k0.trans hk1⟩
  · by_cases hn : n = 0
    · subst hn
      go_enter Tryz.func74, Tryz.ntmps74
      go_wp2_with (go_at_call 96; refine hC.mono ?_; rintro e w1 ⟨rfl, hk1⟩; have y := b0.kept hk1; have c2 := y.cell 2; simp at c2)
      go_ret
      exact ⟨rfl, k0.trans hk1⟩
    · have q : (n == 0) = false := by simpa using hn
      rw [decide_eq_false hn]
      clear hn
      go_enter Tryz.func74, Tryz.ntmps74
      go_wp2_with (go_at_call 96; refine hC.mono ?_; rintro e w1 ⟨rfl, hk1⟩; have y := b0.kept hk1; have c2 := y.cell 2; simp at c2)
      go_ret
      exact ⟨rfl, k0.trans hk1⟩
set_option maxHeartbeats 8000000 in
set_option maxRecDepth 100000 in
theorem hasNames_ok (w : World) (hE : EnvA w) (op n : Int) (s : ByteArray) (ao : Option Addr) (l cap : Nat) (hs : s.size ≤ 1048576) :
    Calls Tryz.prog 82 #[.agg #[.int .i64 op, .string s, .int .i64 n, .slice ao l cap]] w fun e w' => e = .returned (.bool (decide (n = 0) && namesR s)) ∧ Kept w w' := by
  have b0 := Cells.new w 29 #[.int .i64 op, .string s, .int .i64 n, .slice ao l cap]
  have k0 : Kept w (w.alloc (.cells #[.int .i64 op, .string s, .int .i64 n, .slice ao l cap] 29)) := Kept.alloc (Below.refl _ _) _
  have c1 := b0.cell 1; have c2 := b0.cell 2
  simp at c1 c2
  have hC := areNames_ok _ (hE.kept k0) s hs
  obtain ⟨x, hx⟩ : ∃ x, namesR s = x := ⟨_, rfl⟩
  rw [hx] at hC
  rw [hx]
  clear hx hE
  cases x
  · have HX : Hid ((decide (n = 0) && false) = false) := by simp [Hid]
    go_enter Tryz.func82, Tryz.ntmps82
    go_wp2_with (go_at_call 100; refine hC.mono ?_; rintro e w1 ⟨rfl, hk1⟩)
    go_ret
    exact ⟨by rw [HX.out]; rfl, k0.trans hk1⟩
  · by_cases hn : n = 0
    · subst hn
      go_enter Tryz.func82, Tryz.ntmps82
      go_wp2_with (go_at_call 100; refine hC.mono ?_; rintro e w1 ⟨rfl, hk1⟩; have y := b0.kept hk1; have c2 := y.cell 2; simp at c2)
      go_ret
      exact ⟨rfl, k0.trans hk1⟩
    · have q : (n == 0) = false := by simpa using hn
      rw [decide_eq_false hn]
      clear hn
      go_enter Tryz.func82, Tryz.ntmps82
      go_wp2_with (go_at_call 100; refine hC.mono ?_; rintro e w1 ⟨rfl, hk1⟩; have y := b0.kept hk1; have c2 := y.cell 2; simp at c2)
      go_ret
      exact ⟨rfl, k0.trans hk1⟩
theorem hasNothing_ok (w : World) (op n : Int) (s : ByteArray) (ao : Option Addr) (l cap : Nat) :
    Calls Tryz.prog 50 #[.agg #[.int .i64 op, .string s, .int .i64 n, .slice ao l cap]] w fun e w' => e = .returned (.bool (decide (n = 0) && s.toList.isEmpty)) ∧ Kept w w' := by
  have k0 : Kept w (w.alloc (.cells #[.int .i64 op, .string s, .int .i64 n, .slice ao l cap] 29)) := Kept.alloc (Below.refl _ _) _
  cases hs : s.toList.isEmpty with
  | false =>
    have q : s.toList.isEmpty = false := hs
    have HX : Hid ((decide (n = 0) && false) = false) := by simp [Hid]
    clear hs
    go_enter Tryz.func50, Tryz.ntmps50
    go_wp2_with fail
    go_ret
    exact ⟨by rw [HX.out]; rfl, k0⟩
  | true =>
    have q : s.toList.isEmpty = true := hs
    clear hs
    by_cases hn : n = 0
    · subst hn
      go_enter Tryz.func50, Tryz.ntmps50
      go_wp2_with fail
      go_ret
      exact ⟨rfl, k0⟩
    · have q2 : (n == 0) = false := by simpa using hn
      rw [decide_eq_false hn]
      clear hn
      go_enter Tryz.func50, Tryz.ntmps50
      go_wp2_with fail
      go_ret
      exact ⟨rfl, k0⟩
theorem hasNumber_ok (w : World) (op n : Int) (s : ByteArray) (ao : Option Addr) (l cap : Nat) :
    Calls Tryz.prog 72 #[.agg #[.int .i64 op, .string s, .int .i64 n, .slice ao l cap]] w fun e w' => e = .returned (.bool (s.toList.isEmpty && decide (-2147483647 ≤ n ∧ n ≤ 2147483647))) ∧ Kept w w' := by
  have k0 : Kept w (w.alloc (.cells #[.int .i64 op, .string s, .int .i64 n, .slice ao l cap] 29)) := Kept.alloc (Below.refl _ _) _
  cases hs : s.toList.isEmpty with
  | false =>
    have q : s.toList.isEmpty = false := hs
    clear hs
    go_enter Tryz.func72, Tryz.ntmps72
    go_wp2_with fail
    go_ret
    exact ⟨rfl, k0⟩
  | true =>
    have q : s.toList.isEmpty = true := hs
    clear hs
    by_cases h1 : -2147483647 ≤ n
    · by_cases h2 : n ≤ 2147483647
      · rw [decide_eq_true ⟨h1, h2⟩]
        go_enter Tryz.func72, Tryz.ntmps72
        go_wp2_with fail
        go_ret
        exact ⟨rfl, k0⟩
      · rw [decide_eq_false (by omega)]
        have q2 : decide (n ≤ 2147483647) = false := decide_eq_false h2
        clear h2
        go_enter Tryz.func72, Tryz.ntmps72
        go_wp2_with fail
        go_ret
        exact ⟨rfl, k0⟩
    · rw [decide_eq_false (by omega)]
      have q2 : decide (-2147483647 ≤ n) = false := decide_eq_false h1
      clear h1
      go_enter Tryz.func72, Tryz.ntmps72
      go_wp2_with fail
      go_ret
      exact ⟨rfl, k0⟩
theorem count_ok (w : World) (a b n : Int) (sl : Option Addr) (l c : Nat) :
    Calls Tryz.prog 41 #[.agg #[.int .i64 a, .int .i64 b, .slice sl l c], .int .i64 n] w fun e w' => e = .returned (.bool (decide (a ≤ n ∧ n ≤ b))) ∧ Kept w w' := by
  have k0 : Kept w (w.alloc (.cells #[.int .i64 a, .int .i64 b, .slice sl l c] 73)) := Kept.alloc (Below.refl _ _) _
  by_cases h1 : a ≤ n
  · by_cases h2 : n ≤ b
    · rw [decide_eq_true ⟨h1, h2⟩]
      go_enter Tryz.func41, Tryz.ntmps41
      go_wp2_with fail
      go_ret
      exact ⟨rfl, k0⟩
    · rw [decide_eq_false (by omega)]
      have q2 : decide (n ≤ b) = false := decide_eq_false h2
      clear h2
      go_enter Tryz.func41, Tryz.ntmps41
      go_wp2_with fail
      go_ret
      exact ⟨rfl, k0⟩
  · rw [decide_eq_false (by omega)]
    have q2 : decide (a ≤ n) = false := decide_eq_false h1
    clear h1
    go_enter Tryz.func41, Tryz.ntmps41
    go_wp2_with fail
    go_ret
    exact ⟨rfl, k0⟩
theorem at_ok (w : World) (a b x : Int) (g l c : Nat) (i : Nat) (hl : 1 ≤ l) (hl2 : l ≤ 1048576) (hx : w.cell? ⟨g, min i (l - 1), none⟩ = some (.int .i64 x)) :
    Calls Tryz.prog 42 #[.agg #[.int .i64 a, .int .i64 b, .slice (some ⟨g, 0, none⟩) l c], .int .i64 (i : Nat)] w fun e w' => e = .returned (.int .i64 x) ∧ Kept w w' := by
  have k0 : Kept w (w.alloc (.cells #[.int .i64 a, .int .i64 b, .slice (some ⟨g, 0, none⟩) l c] 73)) := Kept.alloc (Below.refl _ _) _
  have hx1 := kept_cell k0 hx
  obtain ⟨m, hm⟩ : ∃ m, min i (l - 1) = m := ⟨_, rfl⟩
  rw [hm] at hx1
  have q1 : min ((i : Nat) : Int) (((l : Nat) : Int) - 1) = ((m : Nat) : Int) := by omega
  have q2 : ((m : Nat) : Int) < ((l : Nat) : Int) := by omega
  have q3 : IntKind.i64.wrap (((l : Nat) : Int) - 1) = ((l : Nat) : Int) - 1 := IntWalk.i64_in _ ⟨by omega, by omega⟩
  clear hm hx
  go_enter Tryz.func42, Tryz.ntmps42
  go_wp2_with fail
  go_ret
  exact ⟨rfl, k0⟩
end Go.Proofs.YtlinbkgeahgkjaaGreatDoor
namespace Go.Proofs.YtlinbkgeahgkjaaGreatDoor
open Go.RowKit
set_option linter.unusedSimpArgs false

/-- What a writer's value tells: where the op stands, what asks for S and N, how many kids, and where they stand. -/
def WrOk (W : World) (v : Value) (stn : Nat) (own : FuncId) (least most : Int) (L : List Int) : Prop := ∃ sl c f x y, v = .agg #[.int .i64 (stn : Nat), .func (.func own) #[] #[], .int .i64 least, .int .i64 most, .slice sl L.length c, .func f x y] ∧ (L = [] ∨ ∃ g, sl = some ⟨g, 0, none⟩ ∧ ∀ (j : Nat) x, L[j]? = some x → W.cell? ⟨g, j, none⟩ = some (.int .i64 x))
theorem WrOk.kept {W W' : World} {v : Value} {stn : Nat} {own : FuncId} {least most : Int} {L : List Int} (h : WrOk W v stn own least most L) (hk : Kept W W') : WrOk W' v stn own least most L := by
  obtain ⟨sl, c, f, x, y, e, h | ⟨g, e2, h⟩⟩ := h
  · exact ⟨sl, c, f, x, y, e, .inl h⟩
  · exact ⟨sl, c, f, x, y, e, .inr ⟨g, e2, fun j z hz => kept_cell hk (h j z hz)⟩⟩
abbrev zeroW : Array Value := #[.int .i64 0, .nilFunc, .int .i64 0, .int .i64 0, .slice none 0 0, .nilFunc]
theorem kidsAs_ok (w : World) (a : Option Addr) (l c : Nat) :
    Calls Tryz.prog 54 #[.slice a l c] w fun e w' => e = .returned (.agg #[.int .i64 (l : Nat), .int .i64 (l : Nat), .slice a l c]) ∧ Kept w w' := by
  have z := Cells.new w 73 #[.int .i64 (l : Nat), .int .i64 (l : Nat), .slice a l c]
  have z0 := z.cell 0; have z1 := z.cell 1; have z2 := z.cell 2
  go_enter Tryz.func54, Tryz.ntmps54
  go_wp2_with fail
  exact bodyPost_ret (v := .agg #[.int .i64 (l : Nat), .int .i64 (l : Nat), .slice a l c]) (by simp [results, Tryz.results54, go_sem, z0, z1, z2]) rfl ⟨rfl, Kept.alloc (Below.refl _ _) _⟩
theorem atLeast_ok (w : World) (a x : Int) :
    Calls Tryz.prog 51 #[.int .i64 a, .int .i64 x] w fun e w' => ∃ g, e = .returned (.agg #[.int .i64 a, .int .i64 200, .slice (some ⟨g, 0, none⟩) 1 1]) ∧ w'.cell? ⟨g, 0, none⟩ = some (.int .i64 x) ∧ Kept w w' := by
  have z := (Cells.new w 73 #[.int .i64 a, .int .i64 200, .slice (some ⟨w.heap.size + 1, 0, none⟩) 1 1]).alloc (.cells #[.int .i64 x] 53)
  have y := Cells.new (w.alloc (.cells #[.int .i64 a, .int .i64 200, .slice (some ⟨w.heap.size + 1, 0, none⟩) 1 1] 73)) 53 #[.int .i64 x]
  simp only [World.size_alloc] at y
  have z0 := z.cell 0; have z1 := z.cell 1; have z2 := z.cell 2
  go_enter Tryz.func51, Tryz.ntmps51
  go_wp2_with fail
  exact bodyPost_ret (v := .agg #[.int .i64 a, .int .i64 200, .slice (some ⟨w.heap.size + 1, 0, none⟩) 1 1]) (by simp [results, Tryz.results51, go_sem, z0, z1, z2]) rfl ⟨_, rfl, y.cell 0, (Kept.alloc (Below.refl _ _) _).alloc _⟩
set_option maxHeartbeats 8000000 in
set_option maxRecDepth 100000 in
theorem wr_1 (w : World) : Calls Tryz.prog 40 #[.int .i64 1] w fun e w' => ∃ v, e = .returned v ∧ WrOk w' v 1 50 0 200 [2] ∧ Kept w w' := by
  have r0 := Cells.new w 76 zeroW
  have k0 : Kept w (w.alloc (.cells zeroW 76)) := Kept.alloc (Below.refl _ _) _
  have hC := atLeast_ok (w.alloc (.cells zeroW 76)) 0 2
  go_enter Tryz.func40, Tryz.ntmps40
  go_wp2_with (go_at_call 51; refine hC.mono ?_; rintro e w1 ⟨g, rfl, hg, hk1⟩; have r1 := r0.kept hk1; have d0 := r1.cell 0; have d1 := r1.cell 1; have d2 := r1.cell 2; have d3 := r1.cell 3; have d4 := r1.cell 4; have d5 := r1.cell 5; have g0 := r1.frozen 0; have g1 := r1.frozen 1; have g2 := r1.frozen 2; have g3 := r1.frozen 3; have g4 := r1.frozen 4; have g5 := r1.frozen 5; have lr := r1.lt; simp at d0 d1 d2 d3 d4 d5)
  have hgne : g ≠ w.heap.size := by
    rintro rfl
    rw [d0] at hg
    simp at hg
  have z := ((((((r1.set 0 (.int .i64 1)).set 1 (.func (.func 50) #[] #[])).set 2 (.int .i64 0)).set 3 (.int .i64 200)).set 4 (.slice (some ⟨g, 0, none⟩) 1 1)).set 5 (.func (.func 52) #[] #[]))
  have z0 := z.cell 0; have z1 := z.cell 1; have z2 := z.cell 2; have z3 := z.cell 3; have z4 := z.cell 4; have z5 := z.cell 5
  exact bodyPost_ret (v := .agg #[.int .i64 1, .func (.func 50) #[] #[], .int .i64 0, .int .i64 200, .slice (some ⟨g, 0, none⟩) 1 1, .func (.func 52) #[] #[]]) (by simp [results, Tryz.results40, go_sem, z0, z1, z2, z3, z4, z5]) rfl ⟨_, rfl, ⟨_, _, _, _, _, rfl, .inr ⟨_, rfl, fun j x hx => by match j, hx with | 0, h => simp at h; subst h; exact (World.cell?_setCell_other _ _ _ _ (by intro e; have := congrArg Addr.block e; simp at this; exact hgne this.symm)).trans ((World.cell?_setCell_other _ _ _ _ (by intro e; have := congrArg Addr.block e; simp at this; exact hgne this.symm)).trans ((World.cell?_setCell_other _ _ _ _ (by intro e; have := congrArg Addr.block e; simp at this; exact hgne this.symm)).trans ((World.cell?_setCell_other _ _ _ _ (by intro e; have := congrArg Addr.block e; simp at this; exact hgne this.symm)).trans ((World.cell?_setCell_other _ _ _ _ (by intro e; have := congrArg Addr.block e; simp at this; exact hgne this.symm)).trans ((World.cell?_setCell_other _ _ _ _ (by intro e; have := congrArg Addr.block e; simp at this; exact hgne this.symm)).trans (hg)))))) | n + 1, h => simp at h⟩⟩, (((((((k0.trans hk1).set (by simp) _).set (by simp) _).set (by simp) _).set (by simp) _).set (by simp) _).set (by simp) _)⟩
set_option maxHeartbeats 8000000 in
set_option maxRecDepth 100000 in
theorem wr_2 (w : World) : Calls Tryz.prog 40 #[.int .i64 2] w fun e w' => ∃ v, e = .returned v ∧ WrOk w' v 2 53 1 1 [3] ∧ Kept w w' := by
  have r0 := Cells.new w 76 zeroW
  have k0 : Kept w (w.alloc (.cells zeroW 76)) := Kept.alloc (Below.refl _ _) _
  have s0 := Cells.new (w.alloc (.cells zeroW 76)) 53 #[.int .i64 3]
  simp only [World.size_alloc] at s0
  have r0 := r0.alloc (.cells #[.int .i64 3] 53)
  have k0 : Kept w ((w.alloc (.cells zeroW 76)).alloc (.cells #[.int .i64 3] 53)) := k0.alloc _
  have hC := kidsAs_ok ((w.alloc (.cells zeroW 76)).alloc (.cells #[.int .i64 3] 53)) (some ⟨w.heap.size + 1, 0, none⟩) 1 1
  go_enter Tryz.func40, Tryz.ntmps40
  go_wp2_with (go_at_call 54; refine hC.mono ?_; rintro e w1 ⟨rfl, hk1⟩; have s1 := s0.kept hk1; have r1 := r0.kept hk1; have d0 := r1.cell 0; have d1 := r1.cell 1; have d2 := r1.cell 2; have d3 := r1.cell 3; have d4 := r1.cell 4; have d5 := r1.cell 5; have g0 := r1.frozen 0; have g1 := r1.frozen 1; have g2 := r1.frozen 2; have g3 := r1.frozen 3; have g4 := r1.frozen 4; have g5 := r1.frozen 5; have lr := r1.lt; simp at d0 d1 d2 d3 d4 d5)
  have z := ((((((r1.set 0 (.int .i64 2)).set 1 (.func (.func 53) #[] #[])).set 2 (.int .i64 1)).set 3 (.int .i64 1)).set 4 (.slice (some ⟨w.heap.size + 1, 0, none⟩) 1 1)).set 5 (.func (.func 55) #[] #[]))
  have z0 := z.cell 0; have z1 := z.cell 1; have z2 := z.cell 2; have z3 := z.cell 3; have z4 := z.cell 4; have z5 := z.cell 5
  exact bodyPost_ret (v := .agg #[.int .i64 2, .func (.func 53) #[] #[], .int .i64 1, .int .i64 1, .slice (some ⟨w.heap.size + 1, 0, none⟩) 1 1, .func (.func 55) #[] #[]]) (by simp [results, Tryz.results40, go_sem, z0, z1, z2, z3, z4, z5]) rfl ⟨_, rfl, ⟨_, _, _, _, _, rfl, .inr ⟨_, rfl, fun j x hx => (((((((s1.other (p := ⟨w.heap.size, 0, none⟩) (by simp) _).other (p := ⟨w.heap.size, 1, none⟩) (by simp) _).other (p := ⟨w.heap.size, 2, none⟩) (by simp) _).other (p := ⟨w.heap.size, 3, none⟩) (by simp) _).other (p := ⟨w.heap.size, 4, none⟩) (by simp) _).other (p := ⟨w.heap.size, 5, none⟩) (by simp) _).cell j).trans (by match j, hx with | 0, h => simp at h; subst h; rfl | n + 1, h => simp at h)⟩⟩, (((((((k0.trans hk1).set (by simp) _).set (by simp) _).set (by simp) _).set (by simp) _).set (by simp) _).set (by simp) _)⟩
set_option maxHeartbeats 8000000 in
set_option maxRecDepth 100000 in
theorem wr_3 (w : World) : Calls Tryz.prog 40 #[.int .i64 3] w fun e w' => ∃ v, e = .returned v ∧ WrOk w' v 2 53 1 1 [3] ∧ Kept w w' := by
  have r0 := Cells.new w 76 zeroW
  have k0 : Kept w (w.alloc (.cells zeroW 76)) := Kept.alloc (Below.refl _ _) _
  have s0 := Cells.new (w.alloc (.cells zeroW 76)) 53 #[.int .i64 3]
  simp only [World.size_alloc] at s0
  have r0 := r0.alloc (.cells #[.int .i64 3] 53)
  have k0 : Kept w ((w.alloc (.cells zeroW 76)).alloc (.cells #[.int .i64 3] 53)) := k0.alloc _
  have hC := kidsAs_ok ((w.alloc (.cells zeroW 76)).alloc (.cells #[.int .i64 3] 53)) (some ⟨w.heap.size + 1, 0, none⟩) 1 1
  go_enter Tryz.func40, Tryz.ntmps40
  go_wp2_with (go_at_call 54; refine hC.mono ?_; rintro e w1 ⟨rfl, hk1⟩; have s1 := s0.kept hk1; have r1 := r0.kept hk1; have d0 := r1.cell 0; have d1 := r1.cell 1; have d2 := r1.cell 2; have d3 := r1.cell 3; have d4 := r1.cell 4; have d5 := r1.cell 5; have g0 := r1.frozen 0; have g1 := r1.frozen 1; have g2 := r1.frozen 2; have g3 := r1.frozen 3; have g4 := r1.frozen 4; have g5 := r1.frozen 5; have lr := r1.lt; simp at d0 d1 d2 d3 d4 d5)
  have z := ((((((r1.set 0 (.int .i64 2)).set 1 (.func (.func 53) #[] #[])).set 2 (.int .i64 1)).set 3 (.int .i64 1)).set 4 (.slice (some ⟨w.heap.size + 1, 0, none⟩) 1 1)).set 5 (.func (.func 56) #[] #[]))
  have z0 := z.cell 0; have z1 := z.cell 1; have z2 := z.cell 2; have z3 := z.cell 3; have z4 := z.cell 4; have z5 := z.cell 5
  exact bodyPost_ret (v := .agg #[.int .i64 2, .func (.func 53) #[] #[], .int .i64 1, .int .i64 1, .slice (some ⟨w.heap.size + 1, 0, none⟩) 1 1, .func (.func 56) #[] #[]]) (by simp [results, Tryz.results40, go_sem, z0, z1, z2, z3, z4, z5]) rfl ⟨_, rfl, ⟨_, _, _, _, _, rfl, .inr ⟨_, rfl, fun j x hx => (((((((s1.other (p := ⟨w.heap.size, 0, none⟩) (by simp) _).other (p := ⟨w.heap.size, 1, none⟩) (by simp) _).other (p := ⟨w.heap.size, 2, none⟩) (by simp) _).other (p := ⟨w.heap.size, 3, none⟩) (by simp) _).other (p := ⟨w.heap.size, 4, none⟩) (by simp) _).other (p := ⟨w.heap.size, 5, none⟩) (by simp) _).cell j).trans (by match j, hx with | 0, h => simp at h; subst h; rfl | n + 1, h => simp at h)⟩⟩, (((((((k0.trans hk1).set (by simp) _).set (by simp) _).set (by simp) _).set (by simp) _).set (by simp) _).set (by simp) _)⟩
set_option maxHeartbeats 8000000 in
set_option maxRecDepth 100000 in
theorem wr_4 (w : World) : Calls Tryz.prog 40 #[.int .i64 4] w fun e w' => ∃ v, e = .returned v ∧ WrOk w' v 2 57 2 2 [3, 3] ∧ Kept w w' := by
  have r0 := Cells.new w 76 zeroW
  have k0 : Kept w (w.alloc (.cells zeroW 76)) := Kept.alloc (Below.refl _ _) _
  have s0 := Cells.new (w.alloc (.cells zeroW 76)) 53 #[.int .i64 3, .int .i64 3]
  simp only [World.size_alloc] at s0
  have r0 := r0.alloc (.cells #[.int .i64 3, .int .i64 3] 53)
  have k0 : Kept w ((w.alloc (.cells zeroW 76)).alloc (.cells #[.int .i64 3, .int .i64 3] 53)) := k0.alloc _
  have hC := kidsAs_ok ((w.alloc (.cells zeroW 76)).alloc (.cells #[.int .i64 3, .int .i64 3] 53)) (some ⟨w.heap.size + 1, 0, none⟩) 2 2
  go_enter Tryz.func40, Tryz.ntmps40
  go_wp2_with (go_at_call 54; refine hC.mono ?_; rintro e w1 ⟨rfl, hk1⟩; have s1 := s0.kept hk1; have r1 := r0.kept hk1; have d0 := r1.cell 0; have d1 := r1.cell 1; have d2 := r1.cell 2; have d3 := r1.cell 3; have d4 := r1.cell 4; have d5 := r1.cell 5; have g0 := r1.frozen 0; have g1 := r1.frozen 1; have g2 := r1.frozen 2; have g3 := r1.frozen 3; have g4 := r1.frozen 4; have g5 := r1.frozen 5; have lr := r1.lt; simp at d0 d1 d2 d3 d4 d5)
  have z := ((((((r1.set 0 (.int .i64 2)).set 1 (.func (.func 57) #[] #[])).set 2 (.int .i64 2)).set 3 (.int .i64 2)).set 4 (.slice (some ⟨w.heap.size + 1, 0, none⟩) 2 2)).set 5 (.func (.func 58) #[] #[]))
  have z0 := z.cell 0; have z1 := z.cell 1; have z2 := z.cell 2; have z3 := z.cell 3; have z4 := z.cell 4; have z5 := z.cell 5
  exact bodyPost_ret (v := .agg #[.int .i64 2, .func (.func 57) #[] #[], .int .i64 2, .int .i64 2, .slice (some ⟨w.heap.size + 1, 0, none⟩) 2 2, .func (.func 58) #[] #[]]) (by simp [results, Tryz.results40, go_sem, z0, z1, z2, z3, z4, z5]) rfl ⟨_, rfl, ⟨_, _, _, _, _, rfl, .inr ⟨_, rfl, fun j x hx => (((((((s1.other (p := ⟨w.heap.size, 0, none⟩) (by simp) _).other (p := ⟨w.heap.size, 1, none⟩) (by simp) _).other (p := ⟨w.heap.size, 2, none⟩) (by simp) _).other (p := ⟨w.heap.size, 3, none⟩) (by simp) _).other (p := ⟨w.heap.size, 4, none⟩) (by simp) _).other (p := ⟨w.heap.size, 5, none⟩) (by simp) _).cell j).trans (by match j, hx with | 0, h => simp at h; subst h; rfl | 1, h => simp at h; subst h; rfl | n + 2, h => simp at h)⟩⟩, (((((((k0.trans hk1).set (by simp) _).set (by simp) _).set (by simp) _).set (by simp) _).set (by simp) _).set (by simp) _)⟩
set_option maxHeartbeats 8000000 in
set_option maxRecDepth 100000 in
theorem wr_6 (w : World) : Calls Tryz.prog 40 #[.int .i64 6] w fun e w' => ∃ v, e = .returned v ∧ WrOk w' v 2 50 2 2 [3, 1] ∧ Kept w w' := by
  have r0 := Cells.new w 76 zeroW
  have k0 : Kept w (w.alloc (.cells zeroW 76)) := Kept.alloc (Below.refl _ _) _
  have s0 := Cells.new (w.alloc (.cells zeroW 76)) 53 #[.int .i64 3, .int .i64 1]
  simp only [World.size_alloc] at s0
  have r0 := r0.alloc (.cells #[.int .i64 3, .int .i64 1] 53)
  have k0 : Kept w ((w.alloc (.cells zeroW 76)).alloc (.cells #[.int .i64 3, .int .i64 1] 53)) := k0.alloc _
  have hC := kidsAs_ok ((w.alloc (.cells zeroW 76)).alloc (.cells #[.int .i64 3, .int .i64 1] 53)) (some ⟨w.heap.size + 1, 0, none⟩) 2 2
  go_enter Tryz.func40, Tryz.ntmps40
  go_wp2_with (go_at_call 54; refine hC.mono ?_; rintro e w1 ⟨rfl, hk1⟩; have s1 := s0.kept hk1; have r1 := r0.kept hk1; have d0 := r1.cell 0; have d1 := r1.cell 1; have d2 := r1.cell 2; have d3 := r1.cell 3; have d4 := r1.cell 4; have d5 := r1.cell 5; have g0 := r1.frozen 0; have g1 := r1.frozen 1; have g2 := r1.frozen 2; have g3 := r1.frozen 3; have g4 := r1.frozen 4; have g5 := r1.frozen 5; have lr := r1.lt; simp at d0 d1 d2 d3 d4 d5)
  have z := ((((((r1.set 0 (.int .i64 2)).set 1 (.func (.func 50) #[] #[])).set 2 (.int .i64 2)).set 3 (.int .i64 2)).set 4 (.slice (some ⟨w.heap.size + 1, 0, none⟩) 2 2)).set 5 (.func (.func 60) #[] #[]))
  have z0 := z.cell 0; have z1 := z.cell 1; have z2 := z.cell 2; have z3 := z.cell 3; have z4 := z.cell 4; have z5 := z.cell 5
  exact bodyPost_ret (v := .agg #[.int .i64 2, .func (.func 50) #[] #[], .int .i64 2, .int .i64 2, .slice (some ⟨w.heap.size + 1, 0, none⟩) 2 2, .func (.func 60) #[] #[]]) (by simp [results, Tryz.results40, go_sem, z0, z1, z2, z3, z4, z5]) rfl ⟨_, rfl, ⟨_, _, _, _, _, rfl, .inr ⟨_, rfl, fun j x hx => (((((((s1.other (p := ⟨w.heap.size, 0, none⟩) (by simp) _).other (p := ⟨w.heap.size, 1, none⟩) (by simp) _).other (p := ⟨w.heap.size, 2, none⟩) (by simp) _).other (p := ⟨w.heap.size, 3, none⟩) (by simp) _).other (p := ⟨w.heap.size, 4, none⟩) (by simp) _).other (p := ⟨w.heap.size, 5, none⟩) (by simp) _).cell j).trans (by match j, hx with | 0, h => simp at h; subst h; rfl | 1, h => simp at h; subst h; rfl | n + 2, h => simp at h)⟩⟩, (((((((k0.trans hk1).set (by simp) _).set (by simp) _).set (by simp) _).set (by simp) _).set (by simp) _).set (by simp) _)⟩
set_option maxHeartbeats 8000000 in
set_option maxRecDepth 100000 in
theorem wr_7 (w : World) : Calls Tryz.prog 40 #[.int .i64 7] w fun e w' => ∃ v, e = .returned v ∧ WrOk w' v 2 50 1 1 [3] ∧ Kept w w' := by
  have r0 := Cells.new w 76 zeroW
  have k0 : Kept w (w.alloc (.cells zeroW 76)) := Kept.alloc (Below.refl _ _) _
  have s0 := Cells.new (w.alloc (.cells zeroW 76)) 53 #[.int .i64 3]
  simp only [World.size_alloc] at s0
  have r0 := r0.alloc (.cells #[.int .i64 3] 53)
  have k0 : Kept w ((w.alloc (.cells zeroW 76)).alloc (.cells #[.int .i64 3] 53)) := k0.alloc _
  have hC := kidsAs_ok ((w.alloc (.cells zeroW 76)).alloc (.cells #[.int .i64 3] 53)) (some ⟨w.heap.size + 1, 0, none⟩) 1 1
  go_enter Tryz.func40, Tryz.ntmps40
  go_wp2_with (go_at_call 54; refine hC.mono ?_; rintro e w1 ⟨rfl, hk1⟩; have s1 := s0.kept hk1; have r1 := r0.kept hk1; have d0 := r1.cell 0; have d1 := r1.cell 1; have d2 := r1.cell 2; have d3 := r1.cell 3; have d4 := r1.cell 4; have d5 := r1.cell 5; have g0 := r1.frozen 0; have g1 := r1.frozen 1; have g2 := r1.frozen 2; have g3 := r1.frozen 3; have g4 := r1.frozen 4; have g5 := r1.frozen 5; have lr := r1.lt; simp at d0 d1 d2 d3 d4 d5)
  have z := ((((((r1.set 0 (.int .i64 2)).set 1 (.func (.func 50) #[] #[])).set 2 (.int .i64 1)).set 3 (.int .i64 1)).set 4 (.slice (some ⟨w.heap.size + 1, 0, none⟩) 1 1)).set 5 (.func (.func 61) #[] #[]))
  have z0 := z.cell 0; have z1 := z.cell 1; have z2 := z.cell 2; have z3 := z.cell 3; have z4 := z.cell 4; have z5 := z.cell 5
  exact bodyPost_ret (v := .agg #[.int .i64 2, .func (.func 50) #[] #[], .int .i64 1, .int .i64 1, .slice (some ⟨w.heap.size + 1, 0, none⟩) 1 1, .func (.func 61) #[] #[]]) (by simp [results, Tryz.results40, go_sem, z0, z1, z2, z3, z4, z5]) rfl ⟨_, rfl, ⟨_, _, _, _, _, rfl, .inr ⟨_, rfl, fun j x hx => (((((((s1.other (p := ⟨w.heap.size, 0, none⟩) (by simp) _).other (p := ⟨w.heap.size, 1, none⟩) (by simp) _).other (p := ⟨w.heap.size, 2, none⟩) (by simp) _).other (p := ⟨w.heap.size, 3, none⟩) (by simp) _).other (p := ⟨w.heap.size, 4, none⟩) (by simp) _).other (p := ⟨w.heap.size, 5, none⟩) (by simp) _).cell j).trans (by match j, hx with | 0, h => simp at h; subst h; rfl | n + 1, h => simp at h)⟩⟩, (((((((k0.trans hk1).set (by simp) _).set (by simp) _).set (by simp) _).set (by simp) _).set (by simp) _).set (by simp) _)⟩
set_option maxHeartbeats 8000000 in
set_option maxRecDepth 100000 in
theorem wr_8 (w : World) : Calls Tryz.prog 40 #[.int .i64 8] w fun e w' => ∃ v, e = .returned v ∧ WrOk w' v 2 50 1 1 [3] ∧ Kept w w' := by
  have r0 := Cells.new w 76 zeroW
  have k0 : Kept w (w.alloc (.cells zeroW 76)) := Kept.alloc (Below.refl _ _) _
  have s0 := Cells.new (w.alloc (.cells zeroW 76)) 53 #[.int .i64 3]
  simp only [World.size_alloc] at s0
  have r0 := r0.alloc (.cells #[.int .i64 3] 53)
  have k0 : Kept w ((w.alloc (.cells zeroW 76)).alloc (.cells #[.int .i64 3] 53)) := k0.alloc _
  have hC := kidsAs_ok ((w.alloc (.cells zeroW 76)).alloc (.cells #[.int .i64 3] 53)) (some ⟨w.heap.size + 1, 0, none⟩) 1 1
  go_enter Tryz.func40, Tryz.ntmps40
  go_wp2_with (go_at_call 54; refine hC.mono ?_; rintro e w1 ⟨rfl, hk1⟩; have s1 := s0.kept hk1; have r1 := r0.kept hk1; have d0 := r1.cell 0; have d1 := r1.cell 1; have d2 := r1.cell 2; have d3 := r1.cell 3; have d4 := r1.cell 4; have d5 := r1.cell 5; have g0 := r1.frozen 0; have g1 := r1.frozen 1; have g2 := r1.frozen 2; have g3 := r1.frozen 3; have g4 := r1.frozen 4; have g5 := r1.frozen 5; have lr := r1.lt; simp at d0 d1 d2 d3 d4 d5)
  have z := ((((((r1.set 0 (.int .i64 2)).set 1 (.func (.func 50) #[] #[])).set 2 (.int .i64 1)).set 3 (.int .i64 1)).set 4 (.slice (some ⟨w.heap.size + 1, 0, none⟩) 1 1)).set 5 (.func (.func 62) #[] #[]))
  have z0 := z.cell 0; have z1 := z.cell 1; have z2 := z.cell 2; have z3 := z.cell 3; have z4 := z.cell 4; have z5 := z.cell 5
  exact bodyPost_ret (v := .agg #[.int .i64 2, .func (.func 50) #[] #[], .int .i64 1, .int .i64 1, .slice (some ⟨w.heap.size + 1, 0, none⟩) 1 1, .func (.func 62) #[] #[]]) (by simp [results, Tryz.results40, go_sem, z0, z1, z2, z3, z4, z5]) rfl ⟨_, rfl, ⟨_, _, _, _, _, rfl, .inr ⟨_, rfl, fun j x hx => (((((((s1.other (p := ⟨w.heap.size, 0, none⟩) (by simp) _).other (p := ⟨w.heap.size, 1, none⟩) (by simp) _).other (p := ⟨w.heap.size, 2, none⟩) (by simp) _).other (p := ⟨w.heap.size, 3, none⟩) (by simp) _).other (p := ⟨w.heap.size, 4, none⟩) (by simp) _).other (p := ⟨w.heap.size, 5, none⟩) (by simp) _).cell j).trans (by match j, hx with | 0, h => simp at h; subst h; rfl | n + 1, h => simp at h)⟩⟩, (((((((k0.trans hk1).set (by simp) _).set (by simp) _).set (by simp) _).set (by simp) _).set (by simp) _).set (by simp) _)⟩
set_option maxHeartbeats 8000000 in
set_option maxRecDepth 100000 in
theorem wr_9 (w : World) : Calls Tryz.prog 40 #[.int .i64 9] w fun e w' => ∃ v, e = .returned v ∧ WrOk w' v 2 50 1 1 [3] ∧ Kept w w' := by
  have r0 := Cells.new w 76 zeroW
  have k0 : Kept w (w.alloc (.cells zeroW 76)) := Kept.alloc (Below.refl _ _) _
  have s0 := Cells.new (w.alloc (.cells zeroW 76)) 53 #[.int .i64 3]
  simp only [World.size_alloc] at s0
  have r0 := r0.alloc (.cells #[.int .i64 3] 53)
  have k0 : Kept w ((w.alloc (.cells zeroW 76)).alloc (.cells #[.int .i64 3] 53)) := k0.alloc _
  have hC := kidsAs_ok ((w.alloc (.cells zeroW 76)).alloc (.cells #[.int .i64 3] 53)) (some ⟨w.heap.size + 1, 0, none⟩) 1 1
  go_enter Tryz.func40, Tryz.ntmps40
  go_wp2_with (go_at_call 54; refine hC.mono ?_; rintro e w1 ⟨rfl, hk1⟩; have s1 := s0.kept hk1; have r1 := r0.kept hk1; have d0 := r1.cell 0; have d1 := r1.cell 1; have d2 := r1.cell 2; have d3 := r1.cell 3; have d4 := r1.cell 4; have d5 := r1.cell 5; have g0 := r1.frozen 0; have g1 := r1.frozen 1; have g2 := r1.frozen 2; have g3 := r1.frozen 3; have g4 := r1.frozen 4; have g5 := r1.frozen 5; have lr := r1.lt; simp at d0 d1 d2 d3 d4 d5)
  have z := ((((((r1.set 0 (.int .i64 2)).set 1 (.func (.func 50) #[] #[])).set 2 (.int .i64 1)).set 3 (.int .i64 1)).set 4 (.slice (some ⟨w.heap.size + 1, 0, none⟩) 1 1)).set 5 (.func (.func 63) #[] #[]))
  have z0 := z.cell 0; have z1 := z.cell 1; have z2 := z.cell 2; have z3 := z.cell 3; have z4 := z.cell 4; have z5 := z.cell 5
  exact bodyPost_ret (v := .agg #[.int .i64 2, .func (.func 50) #[] #[], .int .i64 1, .int .i64 1, .slice (some ⟨w.heap.size + 1, 0, none⟩) 1 1, .func (.func 63) #[] #[]]) (by simp [results, Tryz.results40, go_sem, z0, z1, z2, z3, z4, z5]) rfl ⟨_, rfl, ⟨_, _, _, _, _, rfl, .inr ⟨_, rfl, fun j x hx => (((((((s1.other (p := ⟨w.heap.size, 0, none⟩) (by simp) _).other (p := ⟨w.heap.size, 1, none⟩) (by simp) _).other (p := ⟨w.heap.size, 2, none⟩) (by simp) _).other (p := ⟨w.heap.size, 3, none⟩) (by simp) _).other (p := ⟨w.heap.size, 4, none⟩) (by simp) _).other (p := ⟨w.heap.size, 5, none⟩) (by simp) _).cell j).trans (by match j, hx with | 0, h => simp at h; subst h; rfl | n + 1, h => simp at h)⟩⟩, (((((((k0.trans hk1).set (by simp) _).set (by simp) _).set (by simp) _).set (by simp) _).set (by simp) _).set (by simp) _)⟩
set_option maxHeartbeats 8000000 in
set_option maxRecDepth 100000 in
theorem wr_26 (w : World) : Calls Tryz.prog 40 #[.int .i64 26] w fun e w' => ∃ v, e = .returned v ∧ WrOk w' v 4 53 1 1 [3] ∧ Kept w w' := by
  have r0 := Cells.new w 76 zeroW
  have k0 : Kept w (w.alloc (.cells zeroW 76)) := Kept.alloc (Below.refl _ _) _
  have s0 := Cells.new (w.alloc (.cells zeroW 76)) 53 #[.int .i64 3]
  simp only [World.size_alloc] at s0
  have r0 := r0.alloc (.cells #[.int .i64 3] 53)
  have k0 : Kept w ((w.alloc (.cells zeroW 76)).alloc (.cells #[.int .i64 3] 53)) := k0.alloc _
  have hC := kidsAs_ok ((w.alloc (.cells zeroW 76)).alloc (.cells #[.int .i64 3] 53)) (some ⟨w.heap.size + 1, 0, none⟩) 1 1
  go_enter Tryz.func40, Tryz.ntmps40
  go_wp2_with (go_at_call 54; refine hC.mono ?_; rintro e w1 ⟨rfl, hk1⟩; have s1 := s0.kept hk1; have r1 := r0.kept hk1; have d0 := r1.cell 0; have d1 := r1.cell 1; have d2 := r1.cell 2; have d3 := r1.cell 3; have d4 := r1.cell 4; have d5 := r1.cell 5; have g0 := r1.frozen 0; have g1 := r1.frozen 1; have g2 := r1.frozen 2; have g3 := r1.frozen 3; have g4 := r1.frozen 4; have g5 := r1.frozen 5; have lr := r1.lt; simp at d0 d1 d2 d3 d4 d5)
  have z := ((((((r1.set 0 (.int .i64 4)).set 1 (.func (.func 53) #[] #[])).set 2 (.int .i64 1)).set 3 (.int .i64 1)).set 4 (.slice (some ⟨w.heap.size + 1, 0, none⟩) 1 1)).set 5 (.func (.func 64) #[] #[]))
  have z0 := z.cell 0; have z1 := z.cell 1; have z2 := z.cell 2; have z3 := z.cell 3; have z4 := z.cell 4; have z5 := z.cell 5
  exact bodyPost_ret (v := .agg #[.int .i64 4, .func (.func 53) #[] #[], .int .i64 1, .int .i64 1, .slice (some ⟨w.heap.size + 1, 0, none⟩) 1 1, .func (.func 64) #[] #[]]) (by simp [results, Tryz.results40, go_sem, z0, z1, z2, z3, z4, z5]) rfl ⟨_, rfl, ⟨_, _, _, _, _, rfl, .inr ⟨_, rfl, fun j x hx => (((((((s1.other (p := ⟨w.heap.size, 0, none⟩) (by simp) _).other (p := ⟨w.heap.size, 1, none⟩) (by simp) _).other (p := ⟨w.heap.size, 2, none⟩) (by simp) _).other (p := ⟨w.heap.size, 3, none⟩) (by simp) _).other (p := ⟨w.heap.size, 4, none⟩) (by simp) _).other (p := ⟨w.heap.size, 5, none⟩) (by simp) _).cell j).trans (by match j, hx with | 0, h => simp at h; subst h; rfl | n + 1, h => simp at h)⟩⟩, (((((((k0.trans hk1).set (by simp) _).set (by simp) _).set (by simp) _).set (by simp) _).set (by simp) _).set (by simp) _)⟩
set_option maxHeartbeats 8000000 in
set_option maxRecDepth 100000 in
theorem wr_5 (w : World) : Calls Tryz.prog 40 #[.int .i64 5] w fun e w' => ∃ v, e = .returned v ∧ WrOk w' v 2 50 2 3 [3, 1] ∧ Kept w w' := by
  have r0 := Cells.new w 76 zeroW
  have k0 : Kept w (w.alloc (.cells zeroW 76)) := Kept.alloc (Below.refl _ _) _
  have s0 := Cells.new (w.alloc (.cells zeroW 76)) 53 #[.int .i64 3, .int .i64 1]
  simp only [World.size_alloc] at s0
  have r1 := r0.alloc (.cells #[.int .i64 3, .int .i64 1] 53)
  have k1 : Kept w ((w.alloc (.cells zeroW 76)).alloc (.cells #[.int .i64 3, .int .i64 1] 53)) := k0.alloc _
  have d0 := r1.cell 0; have d1 := r1.cell 1; have d2 := r1.cell 2; have d3 := r1.cell 3; have d4 := r1.cell 4; have d5 := r1.cell 5; have g0 := r1.frozen 0; have g1 := r1.frozen 1; have g2 := r1.frozen 2; have g3 := r1.frozen 3; have g4 := r1.frozen 4; have g5 := r1.frozen 5; have lr := r1.lt; simp at d0 d1 d2 d3 d4 d5
  go_enter Tryz.func40, Tryz.ntmps40
  go_wp2_with fail
  have z := Cells.new w 76 #[.int .i64 2, .func (.func 50) #[] #[], .int .i64 2, .int .i64 3, .slice (some ⟨w.heap.size + 1, 0, none⟩) 2 2, .func (.func 59) #[] #[]]
  have z := z.alloc (.cells #[.int .i64 3, .int .i64 1] 53)
  have z0 := z.cell 0; have z1 := z.cell 1; have z2 := z.cell 2; have z3 := z.cell 3; have z4 := z.cell 4; have z5 := z.cell 5
  have s1 := Cells.new (w.alloc (.cells #[.int .i64 2, .func (.func 50) #[] #[], .int .i64 2, .int .i64 3, .slice (some ⟨w.heap.size + 1, 0, none⟩) 2 2, .func (.func 59) #[] #[]] 76)) 53 #[.int .i64 3, .int .i64 1]
  simp only [World.size_alloc] at s1
  exact bodyPost_ret (v := .agg #[.int .i64 2, .func (.func 50) #[] #[], .int .i64 2, .int .i64 3, .slice (some ⟨w.heap.size + 1, 0, none⟩) 2 2, .func (.func 59) #[] #[]]) (by simp [results, Tryz.results40, go_sem, z0, z1, z2, z3, z4, z5]) rfl ⟨_, rfl, ⟨_, _, _, _, _, rfl, .inr ⟨_, rfl, fun j x hx => (s1.cell j).trans (by match j, hx with | 0, h => simp at h; subst h; rfl | 1, h => simp at h; subst h; rfl | n + 2, h => simp at h)⟩⟩, (Kept.alloc (Below.refl _ _) _).alloc _⟩
end Go.Proofs.YtlinbkgeahgkjaaGreatDoor
