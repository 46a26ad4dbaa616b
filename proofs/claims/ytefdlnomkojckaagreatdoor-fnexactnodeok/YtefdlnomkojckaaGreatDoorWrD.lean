/-
  Chapter 13's table of writers: the contract of writerOf at every op, and of what asks for S and N (genWd.py).
-/
import Derived.Test.YtefdlnomkojckaaGreatDoorWrC
namespace Go.Proofs.YtefdlnomkojckaaGreatDoor
open Go.RowKit
set_option linter.unusedSimpArgs false

def ownF (op : Int) : FuncId := if op = 10 then 66 else if op = 2 ∨ op = 3 ∨ op = 16 ∨ op = 26 then 45 else if op = 4 ∨ op = 17 then 49 else if op = 11 then 68 else if op = 27 then 76 else 42
def leastB (op : Int) : Int := if op = 1 ∨ op = 25 then 0 else if one1 op || decide (op = 27) then 1 else if two2 op || decide (op = 6) then 2 else if op = 5 then 2 else if op = 18 then 1 else 0
def mostB (op : Int) : Int := if op = 1 ∨ op = 25 then 200 else if one1 op || decide (op = 27) then 1 else if two2 op || decide (op = 6) then 2 else if op = 5 then 3 else if op = 18 then 200 else 0
def standL (op : Int) : List Int := if op = 1 then [2] else if op = 25 then [4] else if one1 op then [3] else if op = 27 then [1] else if two2 op then [3, 3] else if op = 5 ∨ op = 6 then [3, 1] else if op = 18 then [3] else []
theorem op_cases {op : Int} (h1 : 1 ≤ op) (h2 : op ≤ 27) : op = 1 ∨ op = 2 ∨ op = 3 ∨ op = 4 ∨ op = 5 ∨ op = 6 ∨ op = 7 ∨ op = 8 ∨ op = 9 ∨ op = 10 ∨ op = 11 ∨ op = 12 ∨ op = 13 ∨ op = 14 ∨ op = 15 ∨ op = 16 ∨ op = 17 ∨ op = 18 ∨ op = 19 ∨ op = 20 ∨ op = 21 ∨ op = 22 ∨ op = 23 ∨ op = 24 ∨ op = 25 ∨ op = 26 ∨ op = 27 := by omega
theorem count_tab {op : Int} (h1 : 1 ≤ op) (h2 : op ≤ 27) {n : Nat} (hn : n ≤ 200) : decide (leastB op ≤ (n : Int) ∧ (n : Int) ≤ mostB op) = countB op n := by
  rcases op_cases h1 h2 with rfl | rfl | rfl | rfl | rfl | rfl | rfl | rfl | rfl | rfl | rfl | rfl | rfl | rfl | rfl | rfl | rfl | rfl | rfl | rfl | rfl | rfl | rfl | rfl | rfl | rfl | rfl
  all_goals (
    simp only [leastB, mostB, countB, one1, two2]
    simp
    try first | omega | (rw [Bool.eq_iff_iff]; simp only [Bool.and_eq_true, decide_eq_true_eq]; omega))
theorem want_in (op : Int) (i : Nat) : 1 ≤ wantAt op i ∧ wantAt op i ≤ 4 := by
  unfold wantAt
  (repeat' split) <;> omega
theorem at_tab {op : Int} (h1 : 1 ≤ op) (h2 : op ≤ 27) {l k : Nat} (hc : countB op l = true) (hk : k < l) : 1 ≤ (standL op).length ∧ (standL op).length ≤ 2 ∧ (standL op)[min k ((standL op).length - 1)]? = some ((wantAt op k : Nat) : Int) := by
  have h0 : min k 0 = 0 := by omega
  rcases op_cases h1 h2 with rfl | rfl | rfl | rfl | rfl | rfl | rfl | rfl | rfl | rfl | rfl | rfl | rfl | rfl | rfl | rfl | rfl | rfl | rfl | rfl | rfl | rfl | rfl | rfl | rfl | rfl | rfl
  all_goals first
    | (refine ⟨by decide, by decide, ?_⟩
       first
         | (show ([_] : List Int)[min k 0]? = _; rw [h0]; rfl)
         | (show ([3, 3] : List Int)[min k 1]? = _
            rcases (show min k 1 = 0 ∨ min k 1 = 1 by omega) with e | e <;> rw [e] <;> rfl)
         | (show ([3, 1] : List Int)[min k 1]? = _
            cases k with
            | zero => rfl
            | succ k => rw [show min (k + 1) 1 = 1 by omega]; rfl))
    | (exfalso; simp [countB, one1, two2] at hc; omega)
theorem writer_ok {op : Int} (h1 : 1 ≤ op) (h2 : op ≤ 27) (w : World) :
    Calls Tryz.prog 31 #[.int .i64 op] w fun e w' => ∃ v, e = .returned v ∧ WrOk w' v (st op) (ownF op) (leastB op) (mostB op) (standL op) ∧ Kept w w' := by
  rcases op_cases h1 h2 with rfl | rfl | rfl | rfl | rfl | rfl | rfl | rfl | rfl | rfl | rfl | rfl | rfl | rfl | rfl | rfl | rfl | rfl | rfl | rfl | rfl | rfl | rfl | rfl | rfl | rfl | rfl
  · exact wr_1 w
  · exact wr_2 w
  · exact wr_3 w
  · exact wr_4 w
  · exact wr_5 w
  · exact wr_6 w
  · exact wr_7 w
  · exact wr_8 w
  · exact wr_9 w
  · exact wr_10 w
  · exact wr_11 w
  · exact wr_12 w
  · exact wr_13 w
  · exact wr_14 w
  · exact wr_15 w
  · exact wr_16 w
  · exact wr_17 w
  · exact wr_18 w
  · exact wr_19 w
  · exact wr_20 w
  · exact wr_21 w
  · exact wr_22 w
  · exact wr_23 w
  · exact wr_24 w
  · exact wr_25 w
  · exact wr_26 w
  · exact wr_27 w
set_option maxHeartbeats 8000000 in
set_option maxRecDepth 100000 in
theorem exprWriter_none {op : Int} (h : ¬ (1 ≤ op ∧ op ≤ 27)) (w : World) :
    Calls Tryz.prog 57 #[.int .i64 op] w fun e w' => e = .returned (.agg zeroW) ∧ Kept w w' := by
  have y10 : (op == 10) = false := by simp; omega
  have y11 : (op == 11) = false := by simp; omega
  have y12 : (op == 12) = false := by simp; omega
  have y13 : (op == 13) = false := by simp; omega
  have y14 : (op == 14) = false := by simp; omega
  have y15 : (op == 15) = false := by simp; omega
  have y16 : (op == 16) = false := by simp; omega
  have y17 : (op == 17) = false := by simp; omega
  have y18 : (op == 18) = false := by simp; omega
  have y19 : (op == 19) = false := by simp; omega
  have y20 : (op == 20) = false := by simp; omega
  have y21 : (op == 21) = false := by simp; omega
  have y22 : (op == 22) = false := by simp; omega
  have y23 : (op == 23) = false := by simp; omega
  have y24 : (op == 24) = false := by simp; omega
  have y25 : (op == 25) = false := by simp; omega
  have y27 : (op == 27) = false := by simp; omega
  have r0 := Cells.new w 61 zeroW
  have z0 := r0.cell 0; have z1 := r0.cell 1; have z2 := r0.cell 2; have z3 := r0.cell 3; have z4 := r0.cell 4; have z5 := r0.cell 5
  simp at z0 z1 z2 z3 z4 z5
  clear h
  go_enter Tryz.func57, Tryz.ntmps57
  go_wp2_with fail
  exact bodyPost_ret (v := .agg zeroW) (by simp [results, Tryz.results57, go_sem, z0, z1, z2, z3, z4, z5]) rfl ⟨rfl, Kept.alloc (Below.refl _ _) _⟩
set_option maxHeartbeats 8000000 in
set_option maxRecDepth 100000 in
theorem writer_none {op : Int} (h : ¬ (1 ≤ op ∧ op ≤ 27)) (w : World) :
    Calls Tryz.prog 31 #[.int .i64 op] w fun e w' => e = .returned (.agg zeroW) ∧ Kept w w' := by
  have hC := exprWriter_none h (w.alloc (.cells zeroW 61))
  have y1 : (op == 1) = false := by simp; omega
  have y2 : (op == 2) = false := by simp; omega
  have y3 : (op == 3) = false := by simp; omega
  have y4 : (op == 4) = false := by simp; omega
  have y5 : (op == 5) = false := by simp; omega
  have y6 : (op == 6) = false := by simp; omega
  have y7 : (op == 7) = false := by simp; omega
  have y8 : (op == 8) = false := by simp; omega
  have y9 : (op == 9) = false := by simp; omega
  have y26 : (op == 26) = false := by simp; omega
  have r0 := Cells.new w 61 zeroW
  have k0 : Kept w (w.alloc (.cells zeroW 61)) := Kept.alloc (Below.refl _ _) _
  clear h
  go_enter Tryz.func31, Tryz.ntmps31
  go_wp2_with (go_at_call 57; refine hC.mono ?_; rintro e w1 ⟨rfl, hk1⟩; have r1 := r0.kept hk1; have d0 := r1.cell 0; have d1 := r1.cell 1; have d2 := r1.cell 2; have d3 := r1.cell 3; have d4 := r1.cell 4; have d5 := r1.cell 5; have g0 := r1.frozen 0; have g1 := r1.frozen 1; have g2 := r1.frozen 2; have g3 := r1.frozen 3; have g4 := r1.frozen 4; have g5 := r1.frozen 5; have lr := r1.lt; simp at d0 d1 d2 d3 d4 d5)
  have z := (((((r1.set 0 (.int .i64 0)).set 1 .nilFunc).set 2 (.int .i64 0)).set 3 (.int .i64 0)).set 4 (.slice none 0 0)).set 5 .nilFunc
  have z0 := z.cell 0; have z1 := z.cell 1; have z2 := z.cell 2; have z3 := z.cell 3; have z4 := z.cell 4; have z5 := z.cell 5
  exact bodyPost_ret (v := .agg zeroW) (by simp [results, Tryz.results31, go_sem, z0, z1, z2, z3, z4, z5]) rfl ⟨rfl, ((((((k0.trans hk1).set (by simp) _).set (by simp) _).set (by simp) _).set (by simp) _).set (by simp) _).set (by simp) _⟩
theorem own_ok {op : Int} (h1 : 1 ≤ op) (h2 : op ≤ 27) (w : World) (hE : EnvA w) (n : Int) (s : ByteArray) (ao : Option Addr) (l cap : Nat) (hs : s.size ≤ 1048576) :
    Calls Tryz.prog (ownF op) #[.agg #[.int .i64 op, .string s, .int .i64 n, .slice ao l cap]] w fun e w' => e = .returned (.bool (ownB op s n)) ∧ Kept w w' := by
  unfold ownF ownB
  by_cases h10 : op = 10
  · rw [if_pos h10, if_pos h10]; exact hasNumber_ok w op n s ao l cap
  rw [if_neg h10, if_neg h10]
  by_cases ha : op = 2 ∨ op = 3 ∨ op = 16 ∨ op = 26
  · rw [if_pos ha, if_pos ha]; exact hasName_ok w hE op n s ao l cap hs
  rw [if_neg ha, if_neg ha]
  by_cases hb : op = 4 ∨ op = 17
  · rw [if_pos hb, if_pos hb]; exact hasProperty_ok w hE op n s ao l cap hs
  rw [if_neg hb, if_neg hb]
  by_cases hc : op = 11
  · rw [if_pos hc, if_pos hc]; exact hasText_ok w op n s ao l cap hs
  rw [if_neg hc, if_neg hc]
  by_cases hd : op = 27
  · rw [if_pos hd, if_pos hd]; exact hasNames_ok w hE op n s ao l cap hs
  rw [if_neg hd, if_neg hd, decide_eq_true (show 1 ≤ op ∧ op ≤ 27 from ⟨h1, h2⟩), Bool.and_true]
  exact hasNothing_ok w op n s ao l cap
end Go.Proofs.YtefdlnomkojckaaGreatDoor
