/-
  The contracts of the functions that write a node around its kids' texts (chapter 13; genWx.py).
  The contracts of writeCall, writeObj, withLines, writeBlock (chapter 13).
-/
import Derived.Lib.AppendIntMem
import Derived.Lib.OthersKept
import Derived.Test.YtejpjbfmjmfnmaaGreatDoorZWvP
import Derived.Test.YtejpjbfmjmfnmaaGreatDoorGrpTp
import Derived.Test.YtejpjbfmjmfnmaaGreatDoorSeq
import Derived.Test.YtejpjbfmjmfnmaaGreatDoorEnvA
namespace Go.Proofs.YtejpjbfmjmfnmaaGreatDoor
open Go.RowKit
set_option linter.unusedSimpArgs false
set_option linter.unusedVariables false

theorem digN_dec : ∀ (u : Nat), 0 < u → (digN u).map (fun n => UInt8.ofNat n.toNat) = Lib.decDigits u := by
  intro u
  induction u using Nat.strongRecOn with
  | _ u ih =>
    intro h
    rw [digN_pos (by omega), List.map_append, List.map_cons, List.map_nil]
    have e1 : (48 + ((u % 10 : Nat) : Int)).toNat = 48 + u % 10 := by omega
    rw [e1]
    rw [Lib.decDigits]
    by_cases h10 : u < 10
    · rw [dif_pos h10, show u / 10 = 0 by omega, digN_zero, show u % 10 = u by omega]
      rfl
    · rw [dif_neg h10, ih (u / 10) (by omega) (by omega)]
theorem itoa_str (n : Int) : (⟨(Lib.itoa n).toArray⟩ : ByteArray) = strOfNums (digI n) := by
  unfold strOfNums digI Lib.itoa
  by_cases h0 : n = 0
  · subst h0
    rw [if_pos rfl, if_neg (by omega)]
    have : Lib.decDigits (0 : Int).toNat = [48] := by rw [Lib.decDigits]; rfl
    rw [this]
    rfl
  · rw [if_neg h0, List.map_append]
    by_cases h : n < 0
    · rw [if_pos h, if_pos h, digN_dec _ (by omega)]
      rfl
    · rw [if_neg h, if_neg h, digN_dec _ (by omega), show n.toNat = n.natAbs by omega]
      rfl
set_option maxHeartbeats 8000000 in
set_option maxRecDepth 100000 in
theorem writeLet_t1 (w : World) (n : Int) (s : ByteArray) (ao : Option Addr) (l cap : Nat) (kb kc : Nat) (x : ByteArray) (hk0 : w.cell? ⟨kb, 0, none⟩ = some (.string x)) (z0 : x.size ≤ 4000000) (hs : s.size ≤ 1048576) :
    Calls Tryz.prog 62 #[.agg #[.int .i64 2, .string s, .int .i64 n, .slice ao l cap], .slice (some ⟨kb, 0, none⟩) 1 kc] w fun e w' => e = .returned (.string ((((⟨#[108, 101, 116, 32]⟩ ++ s) ++ ⟨#[32, 61, 32]⟩) ++ x) ++ ⟨#[59]⟩)) ∧ Kept w w' := by
  have k0 : Kept w (w.alloc (.cells #[.int .i64 2, .string s, .int .i64 n, .slice ao l cap] 29)) := Kept.alloc (Below.refl _ _) _
  have b0 := Cells.new w 29 #[.int .i64 2, .string s, .int .i64 n, .slice ao l cap]
  have p0 : ¬ 9223372036854775807 < 4 + s.size := by omega
  have p1 : ¬ 9223372036854775807 < 4 + s.size + 3 := by omega
  have p2 : ¬ 9223372036854775807 < 4 + s.size + 3 + x.size := by omega
  have p3 : ¬ 9223372036854775807 < 4 + s.size + 3 + x.size + 1 := by omega
  have kd : Kept (w.alloc (.cells #[.int .i64 2, .string s, .int .i64 n, .slice ao l cap] 29)) (w.alloc (.cells #[.int .i64 2, .string s, .int .i64 n, .slice ao l cap] 29)).drew := (Below.refl _ _).drew
  have X0 : ∀ u, Kept (w.alloc (.cells #[.int .i64 2, .string s, .int .i64 n, .slice ao l cap] 29)).drew u → u.cell? ⟨w.heap.size, 0, none⟩ = some (.int .i64 2) := fun u hu => (b0.kept (kd.trans hu)).cell 0
  have X1 : ∀ u, Kept (w.alloc (.cells #[.int .i64 2, .string s, .int .i64 n, .slice ao l cap] 29)).drew u → u.cell? ⟨w.heap.size, 1, none⟩ = some (.string s) := fun u hu => (b0.kept (kd.trans hu)).cell 1
  have X2 : ∀ u, Kept (w.alloc (.cells #[.int .i64 2, .string s, .int .i64 n, .slice ao l cap] 29)).drew u → u.cell? ⟨w.heap.size, 2, none⟩ = some (.int .i64 n) := fun u hu => (b0.kept (kd.trans hu)).cell 2
  have X3 : ∀ u, Kept (w.alloc (.cells #[.int .i64 2, .string s, .int .i64 n, .slice ao l cap] 29)).drew u → u.cell? ⟨w.heap.size, 3, none⟩ = some (.slice ao l cap) := fun u hu => (b0.kept (kd.trans hu)).cell 3
  have K0 : ∀ u, Kept (w.alloc (.cells #[.int .i64 2, .string s, .int .i64 n, .slice ao l cap] 29)).drew u → u.cell? ⟨kb, 0, none⟩ = some (.string x) := fun u hu => kept_cell (k0.trans (kd.trans hu)) hk0
  go_enter Tryz.func62, Tryz.ntmps62
  go_wp2_with fail
  refine wp_region_seqL (by kernel_rfl) (by kernel_rfl) ?_
  repeat (first
    | (refine SeqL.skip (by rfl) ?_; simp only [Act.put, List.setIfInBounds_toArray, List.set_cons_zero, List.set_cons_succ])
    | (refine SeqL.pure ?_ (by rfl) ?_ ?_; rotate_left; (focus (intro u hu; have x0' := X0 u hu; have x1' := X1 u hu; have x2' := X2 u hu; have x3' := X3 u hu; have y0' := K0 u hu;  go_simp; first | done | exact rfl)); simp only [Act.put, List.setIfInBounds_toArray, List.set_cons_zero, List.set_cons_succ])
  )
  refine SeqL.nil ?_
  intro w2 hk2
  go_simp
  go_wp2_with fail
  go_ret
  exact ⟨rfl, k0.trans (kd.trans hk2)⟩
set_option maxHeartbeats 8000000 in
set_option maxRecDepth 100000 in
theorem writeSet_t1 (w : World) (n : Int) (s : ByteArray) (ao : Option Addr) (l cap : Nat) (kb kc : Nat) (x : ByteArray) (hk0 : w.cell? ⟨kb, 0, none⟩ = some (.string x)) (z0 : x.size ≤ 4000000) (hs : s.size ≤ 1048576) :
    Calls Tryz.prog 63 #[.agg #[.int .i64 3, .string s, .int .i64 n, .slice ao l cap], .slice (some ⟨kb, 0, none⟩) 1 kc] w fun e w' => e = .returned (.string (((s ++ ⟨#[32, 61, 32]⟩) ++ x) ++ ⟨#[59]⟩)) ∧ Kept w w' := by
  have k0 : Kept w (w.alloc (.cells #[.int .i64 3, .string s, .int .i64 n, .slice ao l cap] 29)) := Kept.alloc (Below.refl _ _) _
  have b0 := Cells.new w 29 #[.int .i64 3, .string s, .int .i64 n, .slice ao l cap]
  have p0 : ¬ 9223372036854775807 < s.size + 3 := by omega
  have p1 : ¬ 9223372036854775807 < s.size + 3 + x.size := by omega
  have p2 : ¬ 9223372036854775807 < s.size + 3 + x.size + 1 := by omega
  have kd : Kept (w.alloc (.cells #[.int .i64 3, .string s, .int .i64 n, .slice ao l cap] 29)) (w.alloc (.cells #[.int .i64 3, .string s, .int .i64 n, .slice ao l cap] 29)).drew := (Below.refl _ _).drew
  have X0 : ∀ u, Kept (w.alloc (.cells #[.int .i64 3, .string s, .int .i64 n, .slice ao l cap] 29)).drew u → u.cell? ⟨w.heap.size, 0, none⟩ = some (.int .i64 3) := fun u hu => (b0.kept (kd.trans hu)).cell 0
  have X1 : ∀ u, Kept (w.alloc (.cells #[.int .i64 3, .string s, .int .i64 n, .slice ao l cap] 29)).drew u → u.cell? ⟨w.heap.size, 1, none⟩ = some (.string s) := fun u hu => (b0.kept (kd.trans hu)).cell 1
  have X2 : ∀ u, Kept (w.alloc (.cells #[.int .i64 3, .string s, .int .i64 n, .slice ao l cap] 29)).drew u → u.cell? ⟨w.heap.size, 2, none⟩ = some (.int .i64 n) := fun u hu => (b0.kept (kd.trans hu)).cell 2
  have X3 : ∀ u, Kept (w.alloc (.cells #[.int .i64 3, .string s, .int .i64 n, .slice ao l cap] 29)).drew u → u.cell? ⟨w.heap.size, 3, none⟩ = some (.slice ao l cap) := fun u hu => (b0.kept (kd.trans hu)).cell 3
  have K0 : ∀ u, Kept (w.alloc (.cells #[.int .i64 3, .string s, .int .i64 n, .slice ao l cap] 29)).drew u → u.cell? ⟨kb, 0, none⟩ = some (.string x) := fun u hu => kept_cell (k0.trans (kd.trans hu)) hk0
  go_enter Tryz.func63, Tryz.ntmps63
  go_wp2_with fail
  refine wp_region_seqL (by kernel_rfl) (by kernel_rfl) ?_
  repeat (first
    | (refine SeqL.skip (by rfl) ?_; simp only [Act.put, List.setIfInBounds_toArray, List.set_cons_zero, List.set_cons_succ])
    | (refine SeqL.pure ?_ (by rfl) ?_ ?_; rotate_left; (focus (intro u hu; have x0' := X0 u hu; have x1' := X1 u hu; have x2' := X2 u hu; have x3' := X3 u hu; have y0' := K0 u hu;  go_simp; first | done | exact rfl)); simp only [Act.put, List.setIfInBounds_toArray, List.set_cons_zero, List.set_cons_succ])
  )
  refine SeqL.nil ?_
  intro w2 hk2
  go_simp
  go_wp2_with fail
  go_ret
  exact ⟨rfl, k0.trans (kd.trans hk2)⟩
set_option maxHeartbeats 8000000 in
set_option maxRecDepth 100000 in
theorem writeGet_t1 (w : World) (n : Int) (s : ByteArray) (ao : Option Addr) (l cap : Nat) (kb kc : Nat) (x : ByteArray) (hk0 : w.cell? ⟨kb, 0, none⟩ = some (.string x)) (z0 : x.size ≤ 4000000) (hs : s.size ≤ 1048576) :
    Calls Tryz.prog 83 #[.agg #[.int .i64 17, .string s, .int .i64 n, .slice ao l cap], .slice (some ⟨kb, 0, none⟩) 1 kc] w fun e w' => e = .returned (.string (((⟨#[40]⟩ ++ x) ++ ⟨#[41, 46]⟩) ++ s)) ∧ Kept w w' := by
  have k0 : Kept w (w.alloc (.cells #[.int .i64 17, .string s, .int .i64 n, .slice ao l cap] 29)) := Kept.alloc (Below.refl _ _) _
  have b0 := Cells.new w 29 #[.int .i64 17, .string s, .int .i64 n, .slice ao l cap]
  have p0 : ¬ 9223372036854775807 < 1 + x.size := by omega
  have p1 : ¬ 9223372036854775807 < 1 + x.size + 2 := by omega
  have p2 : ¬ 9223372036854775807 < 1 + x.size + 2 + s.size := by omega
  have kd : Kept (w.alloc (.cells #[.int .i64 17, .string s, .int .i64 n, .slice ao l cap] 29)) (w.alloc (.cells #[.int .i64 17, .string s, .int .i64 n, .slice ao l cap] 29)).drew := (Below.refl _ _).drew
  have X0 : ∀ u, Kept (w.alloc (.cells #[.int .i64 17, .string s, .int .i64 n, .slice ao l cap] 29)).drew u → u.cell? ⟨w.heap.size, 0, none⟩ = some (.int .i64 17) := fun u hu => (b0.kept (kd.trans hu)).cell 0
  have X1 : ∀ u, Kept (w.alloc (.cells #[.int .i64 17, .string s, .int .i64 n, .slice ao l cap] 29)).drew u → u.cell? ⟨w.heap.size, 1, none⟩ = some (.string s) := fun u hu => (b0.kept (kd.trans hu)).cell 1
  have X2 : ∀ u, Kept (w.alloc (.cells #[.int .i64 17, .string s, .int .i64 n, .slice ao l cap] 29)).drew u → u.cell? ⟨w.heap.size, 2, none⟩ = some (.int .i64 n) := fun u hu => (b0.kept (kd.trans hu)).cell 2
  have X3 : ∀ u, Kept (w.alloc (.cells #[.int .i64 17, .string s, .int .i64 n, .slice ao l cap] 29)).drew u → u.cell? ⟨w.heap.size, 3, none⟩ = some (.slice ao l cap) := fun u hu => (b0.kept (kd.trans hu)).cell 3
  have K0 : ∀ u, Kept (w.alloc (.cells #[.int .i64 17, .string s, .int .i64 n, .slice ao l cap] 29)).drew u → u.cell? ⟨kb, 0, none⟩ = some (.string x) := fun u hu => kept_cell (k0.trans (kd.trans hu)) hk0
  go_enter Tryz.func83, Tryz.ntmps83
  go_wp2_with fail
  refine wp_region_seqL (by kernel_rfl) (by kernel_rfl) ?_
  repeat (first
    | (refine SeqL.skip (by rfl) ?_; simp only [Act.put, List.setIfInBounds_toArray, List.set_cons_zero, List.set_cons_succ])
    | (refine SeqL.pure ?_ (by rfl) ?_ ?_; rotate_left; (focus (intro u hu; have x0' := X0 u hu; have x1' := X1 u hu; have x2' := X2 u hu; have x3' := X3 u hu; have y0' := K0 u hu;  go_simp; first | done | exact rfl)); simp only [Act.put, List.setIfInBounds_toArray, List.set_cons_zero, List.set_cons_succ])
  )
  refine SeqL.nil ?_
  intro w2 hk2
  go_simp
  go_wp2_with fail
  go_ret
  exact ⟨rfl, k0.trans (kd.trans hk2)⟩
set_option maxHeartbeats 8000000 in
set_option maxRecDepth 100000 in
theorem writeGet_t2 (w : World) (n : Int) (s : ByteArray) (ao : Option Addr) (l cap : Nat) (kb kc : Nat) (x : ByteArray) (y : ByteArray) (hk0 : w.cell? ⟨kb, 0, none⟩ = some (.string x)) (z0 : x.size ≤ 4000000) (hk1 : w.cell? ⟨kb, 1, none⟩ = some (.string y)) (z1 : y.size ≤ 4000000) (hs : s.size ≤ 1048576) :
    Calls Tryz.prog 83 #[.agg #[.int .i64 4, .string s, .int .i64 n, .slice ao l cap], .slice (some ⟨kb, 0, none⟩) 2 kc] w fun e w' => e = .returned (.string (((⟨#[40]⟩ ++ x) ++ ⟨#[41, 46]⟩) ++ s)) ∧ Kept w w' := by
  have k0 : Kept w (w.alloc (.cells #[.int .i64 4, .string s, .int .i64 n, .slice ao l cap] 29)) := Kept.alloc (Below.refl _ _) _
  have b0 := Cells.new w 29 #[.int .i64 4, .string s, .int .i64 n, .slice ao l cap]
  have p0 : ¬ 9223372036854775807 < 1 + x.size := by omega
  have p1 : ¬ 9223372036854775807 < 1 + x.size + 2 := by omega
  have p2 : ¬ 9223372036854775807 < 1 + x.size + 2 + s.size := by omega
  have kd : Kept (w.alloc (.cells #[.int .i64 4, .string s, .int .i64 n, .slice ao l cap] 29)) (w.alloc (.cells #[.int .i64 4, .string s, .int .i64 n, .slice ao l cap] 29)).drew := (Below.refl _ _).drew
  have X0 : ∀ u, Kept (w.alloc (.cells #[.int .i64 4, .string s, .int .i64 n, .slice ao l cap] 29)).drew u → u.cell? ⟨w.heap.size, 0, none⟩ = some (.int .i64 4) := fun u hu => (b0.kept (kd.trans hu)).cell 0
  have X1 : ∀ u, Kept (w.alloc (.cells #[.int .i64 4, .string s, .int .i64 n, .slice ao l cap] 29)).drew u → u.cell? ⟨w.heap.size, 1, none⟩ = some (.string s) := fun u hu => (b0.kept (kd.trans hu)).cell 1
  have X2 : ∀ u, Kept (w.alloc (.cells #[.int .i64 4, .string s, .int .i64 n, .slice ao l cap] 29)).drew u → u.cell? ⟨w.heap.size, 2, none⟩ = some (.int .i64 n) := fun u hu => (b0.kept (kd.trans hu)).cell 2
  have X3 : ∀ u, Kept (w.alloc (.cells #[.int .i64 4, .string s, .int .i64 n, .slice ao l cap] 29)).drew u → u.cell? ⟨w.heap.size, 3, none⟩ = some (.slice ao l cap) := fun u hu => (b0.kept (kd.trans hu)).cell 3
  have K0 : ∀ u, Kept (w.alloc (.cells #[.int .i64 4, .string s, .int .i64 n, .slice ao l cap] 29)).drew u → u.cell? ⟨kb, 0, none⟩ = some (.string x) := fun u hu => kept_cell (k0.trans (kd.trans hu)) hk0
  have K1 : ∀ u, Kept (w.alloc (.cells #[.int .i64 4, .string s, .int .i64 n, .slice ao l cap] 29)).drew u → u.cell? ⟨kb, 1, none⟩ = some (.string y) := fun u hu => kept_cell (k0.trans (kd.trans hu)) hk1
  go_enter Tryz.func83, Tryz.ntmps83
  go_wp2_with fail
  refine wp_region_seqL (by kernel_rfl) (by kernel_rfl) ?_
  repeat (first
    | (refine SeqL.skip (by rfl) ?_; simp only [Act.put, List.setIfInBounds_toArray, List.set_cons_zero, List.set_cons_succ])
    | (refine SeqL.pure ?_ (by rfl) ?_ ?_; rotate_left; (focus (intro u hu; have x0' := X0 u hu; have x1' := X1 u hu; have x2' := X2 u hu; have x3' := X3 u hu; have y0' := K0 u hu; have y1' := K1 u hu;  go_simp; first | done | exact rfl)); simp only [Act.put, List.setIfInBounds_toArray, List.set_cons_zero, List.set_cons_succ])
  )
  refine SeqL.nil ?_
  intro w2 hk2
  go_simp
  go_wp2_with fail
  go_ret
  exact ⟨rfl, k0.trans (kd.trans hk2)⟩
set_option maxHeartbeats 8000000 in
set_option maxRecDepth 100000 in
theorem writePut_t2 (w : World) (n : Int) (s : ByteArray) (ao : Option Addr) (l cap : Nat) (kb kc : Nat) (x : ByteArray) (y : ByteArray) (hk0 : w.cell? ⟨kb, 0, none⟩ = some (.string x)) (z0 : x.size ≤ 4000000) (hk1 : w.cell? ⟨kb, 1, none⟩ = some (.string y)) (z1 : y.size ≤ 4000000) (hs : s.size ≤ 1048576) :
    Calls Tryz.prog 65 #[.agg #[.int .i64 4, .string s, .int .i64 n, .slice ao l cap], .slice (some ⟨kb, 0, none⟩) 2 kc] w fun e w' => e = .returned (.string ((((((⟨#[40]⟩ ++ x) ++ ⟨#[41, 46]⟩) ++ s) ++ ⟨#[32, 61, 32]⟩) ++ y) ++ ⟨#[59]⟩)) ∧ Kept w w' := by
  have k0 : Kept w (w.alloc (.cells #[.int .i64 4, .string s, .int .i64 n, .slice ao l cap] 29)) := Kept.alloc (Below.refl _ _) _
  have b0 := Cells.new w 29 #[.int .i64 4, .string s, .int .i64 n, .slice ao l cap]
  obtain ⟨G, hG⟩ : ∃ G, ((⟨#[40]⟩ ++ x) ++ ⟨#[41, 46]⟩) ++ s = G := ⟨_, rfl⟩
  have hGz : G.size ≤ 6000000 := by rw [← hG, ByteArray.size_append, ByteArray.size_append, ByteArray.size_append]; show 1 + _ + 2 + _ ≤ _; omega
  have HC : Hid (∀ u, Kept (w.alloc (.cells #[.int .i64 4, .string s, .int .i64 n, .slice ao l cap] 29)).drew u → Calls Tryz.prog 83 #[.agg #[.int .i64 4, .string s, .int .i64 n, .slice ao l cap], .slice (some ⟨kb, 0, none⟩) 2 kc] u fun e w' => e = .returned (.string G) ∧ Kept u w') := fun u hu => by
    rw [← hG]
    have kk := k0.trans (((Below.refl _ _).drew : Kept (w.alloc (.cells #[.int .i64 4, .string s, .int .i64 n, .slice ao l cap] 29)) (w.alloc (.cells #[.int .i64 4, .string s, .int .i64 n, .slice ao l cap] 29)).drew).trans hu)
    exact writeGet_t2 u n s ao l cap kb kc x y (kept_cell kk hk0) z0 (kept_cell kk hk1) z1 hs
  simp only [hG]
  clear hG
  have p0 : ¬ 9223372036854775807 < G.size + 3 := by omega
  have p1 : ¬ 9223372036854775807 < G.size + 3 + y.size := by omega
  have p2 : ¬ 9223372036854775807 < G.size + 3 + y.size + 1 := by omega
  have kd : Kept (w.alloc (.cells #[.int .i64 4, .string s, .int .i64 n, .slice ao l cap] 29)) (w.alloc (.cells #[.int .i64 4, .string s, .int .i64 n, .slice ao l cap] 29)).drew := (Below.refl _ _).drew
  have X0 : ∀ u, Kept (w.alloc (.cells #[.int .i64 4, .string s, .int .i64 n, .slice ao l cap] 29)).drew u → u.cell? ⟨w.heap.size, 0, none⟩ = some (.int .i64 4) := fun u hu => (b0.kept (kd.trans hu)).cell 0
  have X1 : ∀ u, Kept (w.alloc (.cells #[.int .i64 4, .string s, .int .i64 n, .slice ao l cap] 29)).drew u → u.cell? ⟨w.heap.size, 1, none⟩ = some (.string s) := fun u hu => (b0.kept (kd.trans hu)).cell 1
  have X2 : ∀ u, Kept (w.alloc (.cells #[.int .i64 4, .string s, .int .i64 n, .slice ao l cap] 29)).drew u → u.cell? ⟨w.heap.size, 2, none⟩ = some (.int .i64 n) := fun u hu => (b0.kept (kd.trans hu)).cell 2
  have X3 : ∀ u, Kept (w.alloc (.cells #[.int .i64 4, .string s, .int .i64 n, .slice ao l cap] 29)).drew u → u.cell? ⟨w.heap.size, 3, none⟩ = some (.slice ao l cap) := fun u hu => (b0.kept (kd.trans hu)).cell 3
  have K0 : ∀ u, Kept (w.alloc (.cells #[.int .i64 4, .string s, .int .i64 n, .slice ao l cap] 29)).drew u → u.cell? ⟨kb, 0, none⟩ = some (.string x) := fun u hu => kept_cell (k0.trans (kd.trans hu)) hk0
  have K1 : ∀ u, Kept (w.alloc (.cells #[.int .i64 4, .string s, .int .i64 n, .slice ao l cap] 29)).drew u → u.cell? ⟨kb, 1, none⟩ = some (.string y) := fun u hu => kept_cell (k0.trans (kd.trans hu)) hk1
  go_enter Tryz.func65, Tryz.ntmps65
  go_wp2_with fail
  refine wp_region_seqL (by kernel_rfl) (by kernel_rfl) ?_
  repeat (first
    | (refine SeqL.skip (by rfl) ?_; simp only [Act.put, List.setIfInBounds_toArray, List.set_cons_zero, List.set_cons_succ])
    | (refine SeqL.pure ?_ (by rfl) ?_ ?_; rotate_left; (focus (intro u hu; have x0' := X0 u hu; have x1' := X1 u hu; have x2' := X2 u hu; have x3' := X3 u hu; have y0' := K0 u hu; have y1' := K1 u hu;  go_simp; first | done | exact rfl)); simp only [Act.put, List.setIfInBounds_toArray, List.set_cons_zero, List.set_cons_succ])
    | (refine SeqL.call _ _ _ (by rfl) ?_ HC.out ?_; (focus (intro u; go_simp; done)); simp only [Act.put, List.setIfInBounds_toArray, List.set_cons_zero, List.set_cons_succ])  )
  refine SeqL.nil ?_
  intro w2 hk2
  go_simp
  go_wp2_with fail
  go_ret
  exact ⟨rfl, k0.trans (kd.trans hk2)⟩
set_option maxHeartbeats 8000000 in
set_option maxRecDepth 100000 in
theorem writeIf_t2 (w : World) (n : Int) (s : ByteArray) (ao : Option Addr) (l cap : Nat) (kb kc : Nat) (x : ByteArray) (y : ByteArray) (hk0 : w.cell? ⟨kb, 0, none⟩ = some (.string x)) (z0 : x.size ≤ 4000000) (hk1 : w.cell? ⟨kb, 1, none⟩ = some (.string y)) (z1 : y.size ≤ 4000000) (hs : s.size ≤ 1048576) :
    Calls Tryz.prog 66 #[.agg #[.int .i64 5, .string s, .int .i64 n, .slice ao l cap], .slice (some ⟨kb, 0, none⟩) 2 kc] w fun e w' => e = .returned (.string (((⟨#[105, 102, 32, 40]⟩ ++ x) ++ ⟨#[41, 32]⟩) ++ y)) ∧ Kept w w' := by
  have k0 : Kept w (w.alloc (.cells #[.int .i64 5, .string s, .int .i64 n, .slice ao l cap] 29)) := Kept.alloc (Below.refl _ _) _
  have b0 := Cells.new w 29 #[.int .i64 5, .string s, .int .i64 n, .slice ao l cap]
  have p0 : ¬ 9223372036854775807 < 4 + x.size := by omega
  have p1 : ¬ 9223372036854775807 < 4 + x.size + 2 := by omega
  have p2 : ¬ 9223372036854775807 < 4 + x.size + 2 + y.size := by omega
  have kd : Kept (w.alloc (.cells #[.int .i64 5, .string s, .int .i64 n, .slice ao l cap] 29)) (w.alloc (.cells #[.int .i64 5, .string s, .int .i64 n, .slice ao l cap] 29)).drew := (Below.refl _ _).drew
  have X0 : ∀ u, Kept (w.alloc (.cells #[.int .i64 5, .string s, .int .i64 n, .slice ao l cap] 29)).drew u → u.cell? ⟨w.heap.size, 0, none⟩ = some (.int .i64 5) := fun u hu => (b0.kept (kd.trans hu)).cell 0
  have X1 : ∀ u, Kept (w.alloc (.cells #[.int .i64 5, .string s, .int .i64 n, .slice ao l cap] 29)).drew u → u.cell? ⟨w.heap.size, 1, none⟩ = some (.string s) := fun u hu => (b0.kept (kd.trans hu)).cell 1
  have X2 : ∀ u, Kept (w.alloc (.cells #[.int .i64 5, .string s, .int .i64 n, .slice ao l cap] 29)).drew u → u.cell? ⟨w.heap.size, 2, none⟩ = some (.int .i64 n) := fun u hu => (b0.kept (kd.trans hu)).cell 2
  have X3 : ∀ u, Kept (w.alloc (.cells #[.int .i64 5, .string s, .int .i64 n, .slice ao l cap] 29)).drew u → u.cell? ⟨w.heap.size, 3, none⟩ = some (.slice ao l cap) := fun u hu => (b0.kept (kd.trans hu)).cell 3
  have K0 : ∀ u, Kept (w.alloc (.cells #[.int .i64 5, .string s, .int .i64 n, .slice ao l cap] 29)).drew u → u.cell? ⟨kb, 0, none⟩ = some (.string x) := fun u hu => kept_cell (k0.trans (kd.trans hu)) hk0
  have K1 : ∀ u, Kept (w.alloc (.cells #[.int .i64 5, .string s, .int .i64 n, .slice ao l cap] 29)).drew u → u.cell? ⟨kb, 1, none⟩ = some (.string y) := fun u hu => kept_cell (k0.trans (kd.trans hu)) hk1
  go_enter Tryz.func66, Tryz.ntmps66
  go_wp2_with fail
  refine wp_region_seqL (by kernel_rfl) (by kernel_rfl) ?_
  repeat (first
    | (refine SeqL.skip (by rfl) ?_; simp only [Act.put, List.setIfInBounds_toArray, List.set_cons_zero, List.set_cons_succ])
    | (refine SeqL.pure ?_ (by rfl) ?_ ?_; rotate_left; (focus (intro u hu; have x0' := X0 u hu; have x1' := X1 u hu; have x2' := X2 u hu; have x3' := X3 u hu; have y0' := K0 u hu; have y1' := K1 u hu;  go_simp; first | done | exact rfl)); simp only [Act.put, List.setIfInBounds_toArray, List.set_cons_zero, List.set_cons_succ])
  )
  refine SeqL.nil ?_
  intro w2 hk2
  go_simp
  go_wp2_with fail
  go_ret
  exact ⟨rfl, k0.trans (kd.trans hk2)⟩
set_option maxHeartbeats 8000000 in
set_option maxRecDepth 100000 in
theorem writeIf_t3 (w : World) (n : Int) (s : ByteArray) (ao : Option Addr) (l cap : Nat) (kb kc : Nat) (x : ByteArray) (y : ByteArray) (z : ByteArray) (hk0 : w.cell? ⟨kb, 0, none⟩ = some (.string x)) (z0 : x.size ≤ 4000000) (hk1 : w.cell? ⟨kb, 1, none⟩ = some (.string y)) (z1 : y.size ≤ 4000000) (hk2 : w.cell? ⟨kb, 2, none⟩ = some (.string z)) (z2 : z.size ≤ 4000000) (hs : s.size ≤ 1048576) :
    Calls Tryz.prog 66 #[.agg #[.int .i64 5, .string s, .int .i64 n, .slice ao l cap], .slice (some ⟨kb, 0, none⟩) 3 kc] w fun e w' => e = .returned (.string ((((((⟨#[105, 102, 32, 40]⟩ ++ x) ++ ⟨#[41, 32]⟩) ++ y) ++ ⟨#[32, 101, 108, 115, 101, 32]⟩) ++ z))) ∧ Kept w w' := by
  have k0 : Kept w (w.alloc (.cells #[.int .i64 5, .string s, .int .i64 n, .slice ao l cap] 29)) := Kept.alloc (Below.refl _ _) _
  have b0 := Cells.new w 29 #[.int .i64 5, .string s, .int .i64 n, .slice ao l cap]
  have p0 : ¬ 9223372036854775807 < 4 + x.size := by omega
  have p1 : ¬ 9223372036854775807 < 4 + x.size + 2 := by omega
  have p2 : ¬ 9223372036854775807 < 4 + x.size + 2 + y.size := by omega
  have kd : Kept (w.alloc (.cells #[.int .i64 5, .string s, .int .i64 n, .slice ao l cap] 29)) (w.alloc (.cells #[.int .i64 5, .string s, .int .i64 n, .slice ao l cap] 29)).drew := (Below.refl _ _).drew
  have X0 : ∀ u, Kept (w.alloc (.cells #[.int .i64 5, .string s, .int .i64 n, .slice ao l cap] 29)).drew u → u.cell? ⟨w.heap.size, 0, none⟩ = some (.int .i64 5) := fun u hu => (b0.kept (kd.trans hu)).cell 0
  have X1 : ∀ u, Kept (w.alloc (.cells #[.int .i64 5, .string s, .int .i64 n, .slice ao l cap] 29)).drew u → u.cell? ⟨w.heap.size, 1, none⟩ = some (.string s) := fun u hu => (b0.kept (kd.trans hu)).cell 1
  have X2 : ∀ u, Kept (w.alloc (.cells #[.int .i64 5, .string s, .int .i64 n, .slice ao l cap] 29)).drew u → u.cell? ⟨w.heap.size, 2, none⟩ = some (.int .i64 n) := fun u hu => (b0.kept (kd.trans hu)).cell 2
  have X3 : ∀ u, Kept (w.alloc (.cells #[.int .i64 5, .string s, .int .i64 n, .slice ao l cap] 29)).drew u → u.cell? ⟨w.heap.size, 3, none⟩ = some (.slice ao l cap) := fun u hu => (b0.kept (kd.trans hu)).cell 3
  have K0 : ∀ u, Kept (w.alloc (.cells #[.int .i64 5, .string s, .int .i64 n, .slice ao l cap] 29)).drew u → u.cell? ⟨kb, 0, none⟩ = some (.string x) := fun u hu => kept_cell (k0.trans (kd.trans hu)) hk0
  have K1 : ∀ u, Kept (w.alloc (.cells #[.int .i64 5, .string s, .int .i64 n, .slice ao l cap] 29)).drew u → u.cell? ⟨kb, 1, none⟩ = some (.string y) := fun u hu => kept_cell (k0.trans (kd.trans hu)) hk1
  have K2 : ∀ u, Kept (w.alloc (.cells #[.int .i64 5, .string s, .int .i64 n, .slice ao l cap] 29)).drew u → u.cell? ⟨kb, 2, none⟩ = some (.string z) := fun u hu => kept_cell (k0.trans (kd.trans hu)) hk2
  go_enter Tryz.func66, Tryz.ntmps66
  go_wp2_with fail
  refine wp_region_seqL (by kernel_rfl) (by kernel_rfl) ?_
  repeat (first
    | (refine SeqL.skip (by rfl) ?_; simp only [Act.put, List.setIfInBounds_toArray, List.set_cons_zero, List.set_cons_succ])
    | (refine SeqL.pure ?_ (by rfl) ?_ ?_; rotate_left; (focus (intro u hu; have x0' := X0 u hu; have x1' := X1 u hu; have x2' := X2 u hu; have x3' := X3 u hu; have y0' := K0 u hu; have y1' := K1 u hu; have y2' := K2 u hu;  go_simp; first | done | exact rfl)); simp only [Act.put, List.setIfInBounds_toArray, List.set_cons_zero, List.set_cons_succ])
  )
  refine SeqL.nil ?_
  intro w2 hk2
  go_simp
  have y2 := K2 w2 hk2
  obtain ⟨T, hT⟩ : ∃ T, (((⟨#[105, 102, 32, 40]⟩ ++ x) ++ ⟨#[41, 32]⟩) ++ y : ByteArray) = T := ⟨_, rfl⟩
  have hTz : T.size ≤ 9000000 := by rw [← hT, ByteArray.size_append, ByteArray.size_append, ByteArray.size_append]; show 4 + _ + 2 + _ ≤ _; omega
  simp only [hT]
  have p8 : ¬ 9223372036854775807 < 6 + z.size := by omega
  have p9 : ¬ 9223372036854775807 < T.size + (6 + z.size) := by omega
  have HA : Hid ((((((⟨#[105, 102, 32, 40]⟩ ++ x) ++ ⟨#[41, 32]⟩) ++ y) ++ ⟨#[32, 101, 108, 115, 101, 32]⟩) ++ z) = T ++ (⟨#[32, 101, 108, 115, 101, 32]⟩ ++ z)) := by
    rw [Hid, hT]
    exact ByteArray.append_assoc
  clear hT
  go_wp2_with fail
  go_ret
  exact ⟨by rw [HA.out]; rfl, k0.trans (kd.trans hk2)⟩
set_option maxHeartbeats 8000000 in
set_option maxRecDepth 100000 in
theorem writeWhile_t2 (w : World) (n : Int) (s : ByteArray) (ao : Option Addr) (l cap : Nat) (kb kc : Nat) (x : ByteArray) (y : ByteArray) (hk0 : w.cell? ⟨kb, 0, none⟩ = some (.string x)) (z0 : x.size ≤ 4000000) (hk1 : w.cell? ⟨kb, 1, none⟩ = some (.string y)) (z1 : y.size ≤ 4000000) (hs : s.size ≤ 1048576) :
    Calls Tryz.prog 67 #[.agg #[.int .i64 6, .string s, .int .i64 n, .slice ao l cap], .slice (some ⟨kb, 0, none⟩) 2 kc] w fun e w' => e = .returned (.string (((⟨#[119, 104, 105, 108, 101, 32, 40]⟩ ++ x) ++ ⟨#[41, 32]⟩) ++ y)) ∧ Kept w w' := by
  have k0 : Kept w (w.alloc (.cells #[.int .i64 6, .string s, .int .i64 n, .slice ao l cap] 29)) := Kept.alloc (Below.refl _ _) _
  have b0 := Cells.new w 29 #[.int .i64 6, .string s, .int .i64 n, .slice ao l cap]
  have p0 : ¬ 9223372036854775807 < 7 + x.size := by omega
  have p1 : ¬ 9223372036854775807 < 7 + x.size + 2 := by omega
  have p2 : ¬ 9223372036854775807 < 7 + x.size + 2 + y.size := by omega
  have kd : Kept (w.alloc (.cells #[.int .i64 6, .string s, .int .i64 n, .slice ao l cap] 29)) (w.alloc (.cells #[.int .i64 6, .string s, .int .i64 n, .slice ao l cap] 29)).drew := (Below.refl _ _).drew
  have X0 : ∀ u, Kept (w.alloc (.cells #[.int .i64 6, .string s, .int .i64 n, .slice ao l cap] 29)).drew u → u.cell? ⟨w.heap.size, 0, none⟩ = some (.int .i64 6) := fun u hu => (b0.kept (kd.trans hu)).cell 0
  have X1 : ∀ u, Kept (w.alloc (.cells #[.int .i64 6, .string s, .int .i64 n, .slice ao l cap] 29)).drew u → u.cell? ⟨w.heap.size, 1, none⟩ = some (.string s) := fun u hu => (b0.kept (kd.trans hu)).cell 1
  have X2 : ∀ u, Kept (w.alloc (.cells #[.int .i64 6, .string s, .int .i64 n, .slice ao l cap] 29)).drew u → u.cell? ⟨w.heap.size, 2, none⟩ = some (.int .i64 n) := fun u hu => (b0.kept (kd.trans hu)).cell 2
  have X3 : ∀ u, Kept (w.alloc (.cells #[.int .i64 6, .string s, .int .i64 n, .slice ao l cap] 29)).drew u → u.cell? ⟨w.heap.size, 3, none⟩ = some (.slice ao l cap) := fun u hu => (b0.kept (kd.trans hu)).cell 3
  have K0 : ∀ u, Kept (w.alloc (.cells #[.int .i64 6, .string s, .int .i64 n, .slice ao l cap] 29)).drew u → u.cell? ⟨kb, 0, none⟩ = some (.string x) := fun u hu => kept_cell (k0.trans (kd.trans hu)) hk0
  have K1 : ∀ u, Kept (w.alloc (.cells #[.int .i64 6, .string s, .int .i64 n, .slice ao l cap] 29)).drew u → u.cell? ⟨kb, 1, none⟩ = some (.string y) := fun u hu => kept_cell (k0.trans (kd.trans hu)) hk1
  go_enter Tryz.func67, Tryz.ntmps67
  go_wp2_with fail
  refine wp_region_seqL (by kernel_rfl) (by kernel_rfl) ?_
  repeat (first
    | (refine SeqL.skip (by rfl) ?_; simp only [Act.put, List.setIfInBounds_toArray, List.set_cons_zero, List.set_cons_succ])
    | (refine SeqL.pure ?_ (by rfl) ?_ ?_; rotate_left; (focus (intro u hu; have x0' := X0 u hu; have x1' := X1 u hu; have x2' := X2 u hu; have x3' := X3 u hu; have y0' := K0 u hu; have y1' := K1 u hu;  go_simp; first | done | exact rfl)); simp only [Act.put, List.setIfInBounds_toArray, List.set_cons_zero, List.set_cons_succ])
  )
  refine SeqL.nil ?_
  intro w2 hk2
  go_simp
  go_wp2_with fail
  go_ret
  exact ⟨rfl, k0.trans (kd.trans hk2)⟩
set_option maxHeartbeats 8000000 in
set_option maxRecDepth 100000 in
theorem writeReturn_t1 (w : World) (n : Int) (s : ByteArray) (ao : Option Addr) (l cap : Nat) (kb kc : Nat) (x : ByteArray) (hk0 : w.cell? ⟨kb, 0, none⟩ = some (.string x)) (z0 : x.size ≤ 4000000) (hs : s.size ≤ 1048576) :
    Calls Tryz.prog 68 #[.agg #[.int .i64 7, .string s, .int .i64 n, .slice ao l cap], .slice (some ⟨kb, 0, none⟩) 1 kc] w fun e w' => e = .returned (.string ((⟨#[114, 101, 116, 117, 114, 110, 32]⟩ ++ x) ++ ⟨#[59]⟩)) ∧ Kept w w' := by
  have k0 : Kept w (w.alloc (.cells #[.int .i64 7, .string s, .int .i64 n, .slice ao l cap] 29)) := Kept.alloc (Below.refl _ _) _
  have b0 := Cells.new w 29 #[.int .i64 7, .string s, .int .i64 n, .slice ao l cap]
  have p0 : ¬ 9223372036854775807 < 7 + x.size := by omega
  have p1 : ¬ 9223372036854775807 < 7 + x.size + 1 := by omega
  have y0 := kept_cell k0 hk0
  have x1 := b0.cell 1
  have x2 := b0.cell 2
  simp at x1 x2
  go_enter Tryz.func68, Tryz.ntmps68
  go_wp2_with fail
  go_ret
  exact ⟨rfl, k0⟩
set_option maxHeartbeats 8000000 in
set_option maxRecDepth 100000 in
theorem writePrint_t1 (w : World) (n : Int) (s : ByteArray) (ao : Option Addr) (l cap : Nat) (kb kc : Nat) (x : ByteArray) (hk0 : w.cell? ⟨kb, 0, none⟩ = some (.string x)) (z0 : x.size ≤ 4000000) (hs : s.size ≤ 1048576) :
    Calls Tryz.prog 69 #[.agg #[.int .i64 8, .string s, .int .i64 n, .slice ao l cap], .slice (some ⟨kb, 0, none⟩) 1 kc] w fun e w' => e = .returned (.string ((⟨#[112, 114, 105, 110, 116, 32]⟩ ++ x) ++ ⟨#[59]⟩)) ∧ Kept w w' := by
  have k0 : Kept w (w.alloc (.cells #[.int .i64 8, .string s, .int .i64 n, .slice ao l cap] 29)) := Kept.alloc (Below.refl _ _) _
  have b0 := Cells.new w 29 #[.int .i64 8, .string s, .int .i64 n, .slice ao l cap]
  have p0 : ¬ 9223372036854775807 < 6 + x.size := by omega
  have p1 : ¬ 9223372036854775807 < 6 + x.size + 1 := by omega
  have y0 := kept_cell k0 hk0
  have x1 := b0.cell 1
  have x2 := b0.cell 2
  simp at x1 x2
  go_enter Tryz.func69, Tryz.ntmps69
  go_wp2_with fail
  go_ret
  exact ⟨rfl, k0⟩
set_option maxHeartbeats 8000000 in
set_option maxRecDepth 100000 in
theorem writeDo_t1 (w : World) (n : Int) (s : ByteArray) (ao : Option Addr) (l cap : Nat) (kb kc : Nat) (x : ByteArray) (hk0 : w.cell? ⟨kb, 0, none⟩ = some (.string x)) (z0 : x.size ≤ 4000000) (hs : s.size ≤ 1048576) :
    Calls Tryz.prog 70 #[.agg #[.int .i64 9, .string s, .int .i64 n, .slice ao l cap], .slice (some ⟨kb, 0, none⟩) 1 kc] w fun e w' => e = .returned (.string (x ++ ⟨#[59]⟩)) ∧ Kept w w' := by
  have k0 : Kept w (w.alloc (.cells #[.int .i64 9, .string s, .int .i64 n, .slice ao l cap] 29)) := Kept.alloc (Below.refl _ _) _
  have b0 := Cells.new w 29 #[.int .i64 9, .string s, .int .i64 n, .slice ao l cap]
  have p0 : ¬ 9223372036854775807 < x.size + 1 := by omega
  have y0 := kept_cell k0 hk0
  have x1 := b0.cell 1
  have x2 := b0.cell 2
  simp at x1 x2
  go_enter Tryz.func70, Tryz.ntmps70
  go_wp2_with fail
  go_ret
  exact ⟨rfl, k0⟩
set_option maxHeartbeats 8000000 in
set_option maxRecDepth 100000 in
theorem writePair_t1 (w : World) (n : Int) (s : ByteArray) (ao : Option Addr) (l cap : Nat) (kb kc : Nat) (x : ByteArray) (hk0 : w.cell? ⟨kb, 0, none⟩ = some (.string x)) (z0 : x.size ≤ 4000000) (hs : s.size ≤ 1048576) :
    Calls Tryz.prog 71 #[.agg #[.int .i64 26, .string s, .int .i64 n, .slice ao l cap], .slice (some ⟨kb, 0, none⟩) 1 kc] w fun e w' => e = .returned (.string ((s ++ ⟨#[58, 32]⟩) ++ x)) ∧ Kept w w' := by
  have k0 : Kept w (w.alloc (.cells #[.int .i64 26, .string s, .int .i64 n, .slice ao l cap] 29)) := Kept.alloc (Below.refl _ _) _
  have b0 := Cells.new w 29 #[.int .i64 26, .string s, .int .i64 n, .slice ao l cap]
  have p0 : ¬ 9223372036854775807 < s.size + 2 := by omega
  have p1 : ¬ 9223372036854775807 < s.size + 2 + x.size := by omega
  have kd : Kept (w.alloc (.cells #[.int .i64 26, .string s, .int .i64 n, .slice ao l cap] 29)) (w.alloc (.cells #[.int .i64 26, .string s, .int .i64 n, .slice ao l cap] 29)).drew := (Below.refl _ _).drew
  have X0 : ∀ u, Kept (w.alloc (.cells #[.int .i64 26, .string s, .int .i64 n, .slice ao l cap] 29)).drew u → u.cell? ⟨w.heap.size, 0, none⟩ = some (.int .i64 26) := fun u hu => (b0.kept (kd.trans hu)).cell 0
  have X1 : ∀ u, Kept (w.alloc (.cells #[.int .i64 26, .string s, .int .i64 n, .slice ao l cap] 29)).drew u → u.cell? ⟨w.heap.size, 1, none⟩ = some (.string s) := fun u hu => (b0.kept (kd.trans hu)).cell 1
  have X2 : ∀ u, Kept (w.alloc (.cells #[.int .i64 26, .string s, .int .i64 n, .slice ao l cap] 29)).drew u → u.cell? ⟨w.heap.size, 2, none⟩ = some (.int .i64 n) := fun u hu => (b0.kept (kd.trans hu)).cell 2
  have X3 : ∀ u, Kept (w.alloc (.cells #[.int .i64 26, .string s, .int .i64 n, .slice ao l cap] 29)).drew u → u.cell? ⟨w.heap.size, 3, none⟩ = some (.slice ao l cap) := fun u hu => (b0.kept (kd.trans hu)).cell 3
  have K0 : ∀ u, Kept (w.alloc (.cells #[.int .i64 26, .string s, .int .i64 n, .slice ao l cap] 29)).drew u → u.cell? ⟨kb, 0, none⟩ = some (.string x) := fun u hu => kept_cell (k0.trans (kd.trans hu)) hk0
  go_enter Tryz.func71, Tryz.ntmps71
  go_wp2_with fail
  refine wp_region_seqL (by kernel_rfl) (by kernel_rfl) ?_
  repeat (first
    | (refine SeqL.skip (by rfl) ?_; simp only [Act.put, List.setIfInBounds_toArray, List.set_cons_zero, List.set_cons_succ])
    | (refine SeqL.pure ?_ (by rfl) ?_ ?_; rotate_left; (focus (intro u hu; have x0' := X0 u hu; have x1' := X1 u hu; have x2' := X2 u hu; have x3' := X3 u hu; have y0' := K0 u hu;  go_simp; first | done | exact rfl)); simp only [Act.put, List.setIfInBounds_toArray, List.set_cons_zero, List.set_cons_succ])
  )
  refine SeqL.nil ?_
  intro w2 hk2
  go_simp
  go_wp2_with fail
  go_ret
  exact ⟨rfl, k0.trans (kd.trans hk2)⟩
set_option maxHeartbeats 8000000 in
set_option maxRecDepth 100000 in
theorem writeText_t0 (w : World) (n : Int) (s : ByteArray) (ao : Option Addr) (l cap : Nat) (ka : Option Addr) (kl kc : Nat) (hs : s.size ≤ 1048576) :
    Calls Tryz.prog 87 #[.agg #[.int .i64 11, .string s, .int .i64 n, .slice ao l cap], .slice ka kl kc] w fun e w' => e = .returned (.string ((⟨#[34]⟩ ++ s) ++ ⟨#[34]⟩)) ∧ Kept w w' := by
  have k0 : Kept w (w.alloc (.cells #[.int .i64 11, .string s, .int .i64 n, .slice ao l cap] 29)) := Kept.alloc (Below.refl _ _) _
  have b0 := Cells.new w 29 #[.int .i64 11, .string s, .int .i64 n, .slice ao l cap]
  have p0 : ¬ 9223372036854775807 < 1 + s.size := by omega
  have p1 : ¬ 9223372036854775807 < 1 + s.size + 1 := by omega
  have x1 := b0.cell 1
  have x2 := b0.cell 2
  simp at x1 x2
  go_enter Tryz.func87, Tryz.ntmps87
  go_wp2_with fail
  go_ret
  exact ⟨rfl, k0⟩
set_option maxHeartbeats 8000000 in
set_option maxRecDepth 100000 in
theorem writeName_t0 (w : World) (n : Int) (s : ByteArray) (ao : Option Addr) (l cap : Nat) (ka : Option Addr) (kl kc : Nat) (hs : s.size ≤ 1048576) :
    Calls Tryz.prog 89 #[.agg #[.int .i64 16, .string s, .int .i64 n, .slice ao l cap], .slice ka kl kc] w fun e w' => e = .returned (.string (s)) ∧ Kept w w' := by
  have k0 : Kept w (w.alloc (.cells #[.int .i64 16, .string s, .int .i64 n, .slice ao l cap] 29)) := Kept.alloc (Below.refl _ _) _
  have b0 := Cells.new w 29 #[.int .i64 16, .string s, .int .i64 n, .slice ao l cap]
  have x1 := b0.cell 1
  have x2 := b0.cell 2
  simp at x1 x2
  go_enter Tryz.func89, Tryz.ntmps89
  go_wp2_with fail
  go_ret
  exact ⟨rfl, k0⟩
set_option maxHeartbeats 8000000 in
set_option maxRecDepth 100000 in
theorem writeNot_t1 (w : World) (n : Int) (s : ByteArray) (ao : Option Addr) (l cap : Nat) (kb kc : Nat) (x : ByteArray) (hk0 : w.cell? ⟨kb, 0, none⟩ = some (.string x)) (z0 : x.size ≤ 4000000) (hs : s.size ≤ 1048576) :
    Calls Tryz.prog 92 #[.agg #[.int .i64 24, .string s, .int .i64 n, .slice ao l cap], .slice (some ⟨kb, 0, none⟩) 1 kc] w fun e w' => e = .returned (.string ((⟨#[33, 40]⟩ ++ x) ++ ⟨#[41]⟩)) ∧ Kept w w' := by
  have k0 : Kept w (w.alloc (.cells #[.int .i64 24, .string s, .int .i64 n, .slice ao l cap] 29)) := Kept.alloc (Below.refl _ _) _
  have b0 := Cells.new w 29 #[.int .i64 24, .string s, .int .i64 n, .slice ao l cap]
  have p0 : ¬ 9223372036854775807 < 2 + x.size := by omega
  have p1 : ¬ 9223372036854775807 < 2 + x.size + 1 := by omega
  have y0 := kept_cell k0 hk0
  have x1 := b0.cell 1
  have x2 := b0.cell 2
  simp at x1 x2
  go_enter Tryz.func92, Tryz.ntmps92
  go_wp2_with fail
  go_ret
  exact ⟨rfl, k0⟩
set_option maxHeartbeats 8000000 in
set_option maxRecDepth 100000 in
theorem wordWriter1_t0 (w : World) (op : Int) (n : Int) (s : ByteArray) (ao : Option Addr) (l cap : Nat) (ka : Option Addr) (kl kc : Nat) (hs : s.size ≤ 1048576) (lg : Nat) (sg : ByteArray) (hg : w.cell? ⟨lg, 0, none⟩ = some (.string sg)) :
    Calls Tryz.prog 102 #[.agg #[.int .i64 op, .string s, .int .i64 n, .slice ao l cap], .slice ka kl kc, .pointer (some ⟨lg, 0, none⟩)] w fun e w' => e = .returned (.string (sg)) ∧ Kept w w' := by
  have k0 : Kept w (w.alloc (.cells #[.int .i64 op, .string s, .int .i64 n, .slice ao l cap] 29)) := Kept.alloc (Below.refl _ _) _
  have b0 := Cells.new w 29 #[.int .i64 op, .string s, .int .i64 n, .slice ao l cap]
  have y9 := kept_cell k0 hg
  have x1 := b0.cell 1
  have x2 := b0.cell 2
  simp at x1 x2
  go_enter Tryz.func102, Tryz.ntmps102
  go_wp2_with fail
  go_ret
  exact ⟨rfl, k0⟩
set_option maxHeartbeats 8000000 in
set_option maxRecDepth 100000 in
theorem signWriter1_t2 (w : World) (op : Int) (n : Int) (s : ByteArray) (ao : Option Addr) (l cap : Nat) (kb kc : Nat) (x : ByteArray) (y : ByteArray) (hk0 : w.cell? ⟨kb, 0, none⟩ = some (.string x)) (z0 : x.size ≤ 4000000) (hk1 : w.cell? ⟨kb, 1, none⟩ = some (.string y)) (z1 : y.size ≤ 4000000) (hs : s.size ≤ 1048576) (lg : Nat) (sg : ByteArray) (hgz : sg.size ≤ 2) (hg : w.cell? ⟨lg, 0, none⟩ = some (.string sg)) :
    Calls Tryz.prog 104 #[.agg #[.int .i64 op, .string s, .int .i64 n, .slice ao l cap], .slice (some ⟨kb, 0, none⟩) 2 kc, .pointer (some ⟨lg, 0, none⟩)] w fun e w' => e = .returned (.string ((((((⟨#[40]⟩ ++ x) ++ ⟨#[32]⟩) ++ sg) ++ ⟨#[32]⟩) ++ y) ++ ⟨#[41]⟩)) ∧ Kept w w' := by
  have k0 : Kept w (w.alloc (.cells #[.int .i64 op, .string s, .int .i64 n, .slice ao l cap] 29)) := Kept.alloc (Below.refl _ _) _
  have b0 := Cells.new w 29 #[.int .i64 op, .string s, .int .i64 n, .slice ao l cap]
  have p0 : ¬ 9223372036854775807 < 1 + x.size := by omega
  have p1 : ¬ 9223372036854775807 < 1 + x.size + 1 := by omega
  have p2 : ¬ 9223372036854775807 < 1 + x.size + 1 + sg.size := by omega
  have p3 : ¬ 9223372036854775807 < 1 + x.size + 1 + sg.size + 1 := by omega
  have p4 : ¬ 9223372036854775807 < 1 + x.size + 1 + sg.size + 1 + y.size := by omega
  have p5 : ¬ 9223372036854775807 < 1 + x.size + 1 + sg.size + 1 + y.size + 1 := by omega
  have kd : Kept (w.alloc (.cells #[.int .i64 op, .string s, .int .i64 n, .slice ao l cap] 29)) (w.alloc (.cells #[.int .i64 op, .string s, .int .i64 n, .slice ao l cap] 29)).drew := (Below.refl _ _).drew
  have X0 : ∀ u, Kept (w.alloc (.cells #[.int .i64 op, .string s, .int .i64 n, .slice ao l cap] 29)).drew u → u.cell? ⟨w.heap.size, 0, none⟩ = some (.int .i64 op) := fun u hu => (b0.kept (kd.trans hu)).cell 0
  have X1 : ∀ u, Kept (w.alloc (.cells #[.int .i64 op, .string s, .int .i64 n, .slice ao l cap] 29)).drew u → u.cell? ⟨w.heap.size, 1, none⟩ = some (.string s) := fun u hu => (b0.kept (kd.trans hu)).cell 1
  have X2 : ∀ u, Kept (w.alloc (.cells #[.int .i64 op, .string s, .int .i64 n, .slice ao l cap] 29)).drew u → u.cell? ⟨w.heap.size, 2, none⟩ = some (.int .i64 n) := fun u hu => (b0.kept (kd.trans hu)).cell 2
  have X3 : ∀ u, Kept (w.alloc (.cells #[.int .i64 op, .string s, .int .i64 n, .slice ao l cap] 29)).drew u → u.cell? ⟨w.heap.size, 3, none⟩ = some (.slice ao l cap) := fun u hu => (b0.kept (kd.trans hu)).cell 3
  have K0 : ∀ u, Kept (w.alloc (.cells #[.int .i64 op, .string s, .int .i64 n, .slice ao l cap] 29)).drew u → u.cell? ⟨kb, 0, none⟩ = some (.string x) := fun u hu => kept_cell (k0.trans (kd.trans hu)) hk0
  have K1 : ∀ u, Kept (w.alloc (.cells #[.int .i64 op, .string s, .int .i64 n, .slice ao l cap] 29)).drew u → u.cell? ⟨kb, 1, none⟩ = some (.string y) := fun u hu => kept_cell (k0.trans (kd.trans hu)) hk1
  have L0 : ∀ u, Kept (w.alloc (.cells #[.int .i64 op, .string s, .int .i64 n, .slice ao l cap] 29)).drew u → u.cell? ⟨lg, 0, none⟩ = some (.string sg) := fun u hu => kept_cell (k0.trans (kd.trans hu)) hg
  go_enter Tryz.func104, Tryz.ntmps104
  go_wp2_with fail
  refine wp_region_seqL (by kernel_rfl) (by kernel_rfl) ?_
  repeat (first
    | (refine SeqL.skip (by rfl) ?_; simp only [Act.put, List.setIfInBounds_toArray, List.set_cons_zero, List.set_cons_succ])
    | (refine SeqL.pure ?_ (by rfl) ?_ ?_; rotate_left; (focus (intro u hu; have x0' := X0 u hu; have x1' := X1 u hu; have x2' := X2 u hu; have x3' := X3 u hu; have y0' := K0 u hu; have y1' := K1 u hu; have l0' := L0 u hu;  go_simp; first | done | exact rfl)); simp only [Act.put, List.setIfInBounds_toArray, List.set_cons_zero, List.set_cons_succ])
  )
  refine SeqL.nil ?_
  intro w2 hk2
  go_simp
  go_wp2_with fail
  go_ret
  exact ⟨rfl, k0.trans (kd.trans hk2)⟩
set_option maxHeartbeats 8000000 in
set_option maxRecDepth 100000 in
theorem writeNum_t0 (w : World) (n : Int) (s : ByteArray) (ao : Option Addr) (l cap : Nat) (ka : Option Addr) (kl kc : Nat) (hs : s.size ≤ 1048576) (hn : -2147483647 ≤ n ∧ n ≤ 2147483647) (hE : EnvA w) :
    Calls Tryz.prog 85 #[.agg #[.int .i64 10, .string s, .int .i64 n, .slice ao l cap], .slice ka kl kc] w fun e w' => e = .returned (.string (if n < 0 then (⟨#[40]⟩ ++ strOfNums (digI n)) ++ ⟨#[41]⟩ else strOfNums (digI n))) ∧ Kept w w' := by
  have k0 : Kept w (w.alloc (.cells #[.int .i64 10, .string s, .int .i64 n, .slice ao l cap] 29)) := Kept.alloc (Below.refl _ _) _
  have b0 := Cells.new w 29 #[.int .i64 10, .string s, .int .i64 n, .slice ao l cap]
  have hC : Calls Tryz.prog 100 #[.int .i64 n] (w.alloc (.cells #[.int .i64 10, .string s, .int .i64 n, .slice ao l cap] 29)) fun e w' => e = .returned (.string (strOfNums (digI n))) ∧ Kept (w.alloc (.cells #[.int .i64 10, .string s, .int .i64 n, .slice ao l cap] 29)) w' := by
    refine (lib_strconv_Itoa n (by omega) (by omega) _ (hE.kept k0).pow).mono ?_
    rintro e w' ⟨rfl, k, os, rfl⟩
    exact ⟨by rw [itoa_str], kept_grow _ _ _⟩
  have hd := digI_len (n := n) (by omega)
  have hz : (strOfNums (digI n)).size = (digI n).length := strOfNums_size _
  obtain ⟨D, hD⟩ : ∃ D, strOfNums (digI n) = D := ⟨_, rfl⟩
  rw [hD] at hC hz
  simp only [hD]
  have p0 : ¬ 9223372036854775807 < 1 + D.size := by omega
  have p1 : ¬ 9223372036854775807 < 1 + D.size + 1 := by omega
  clear hD hz hd hE
  have x1 := b0.cell 1
  have x2 := b0.cell 2
  simp at x1 x2
  go_enter Tryz.func85, Tryz.ntmps85
  by_cases h0 : n < 0
  · rw [if_pos h0]
    go_wp2_with (go_at_call 100; refine hC.mono ?_; rintro e w1 ⟨rfl, hk1⟩; have x2 := (b0.kept hk1).cell 2; simp at x2)
    go_ret
    exact ⟨rfl, k0.trans hk1⟩
  · rw [if_neg h0]
    have q0 : decide (n < 0) = false := decide_eq_false h0
    clear h0
    go_wp2_with (go_at_call 100; refine hC.mono ?_; rintro e w1 ⟨rfl, hk1⟩; have x2 := (b0.kept hk1).cell 2; simp at x2)
    go_ret
    exact ⟨rfl, k0.trans hk1⟩
set_option maxHeartbeats 8000000 in
set_option maxRecDepth 100000 in
theorem writeFun_t1 (w : World) (n : Int) (s : ByteArray) (ao : Option Addr) (l cap : Nat) (kb kc : Nat) (x : ByteArray) (hk0 : w.cell? ⟨kb, 0, none⟩ = some (.string x)) (z0 : x.size ≤ 4000000) (hs : s.size ≤ 1048576) (hE : EnvA w) :
    Calls Tryz.prog 95 #[.agg #[.int .i64 27, .string s, .int .i64 n, .slice ao l cap], .slice (some ⟨kb, 0, none⟩) 1 kc] w fun e w' => e = .returned (.string (((⟨#[102, 117, 110, 99, 116, 105, 111, 110, 40]⟩ ++ namesT s) ++ ⟨#[41, 32]⟩) ++ x)) ∧ Kept w w' := by
  have k0 : Kept w (w.alloc (.cells #[.int .i64 27, .string s, .int .i64 n, .slice ao l cap] 29)) := Kept.alloc (Below.refl _ _) _
  have b0 := Cells.new w 29 #[.int .i64 27, .string s, .int .i64 n, .slice ao l cap]
  have hR := names_size s
  have HC : Hid (∀ u, Kept (w.alloc (.cells #[.int .i64 27, .string s, .int .i64 n, .slice ao l cap] 29)).drew u → Calls Tryz.prog 106 #[.string s, .string ⟨#[32]⟩, .string ⟨#[44, 32]⟩] u fun e w' => e = .returned (.string (namesT s)) ∧ Kept u w') := fun u hu => by
    obtain ⟨m, hm⟩ := (hE.kept (k0.trans (((Below.refl _ _).drew : Kept (w.alloc (.cells #[.int .i64 27, .string s, .int .i64 n, .slice ao l cap] 29)) (w.alloc (.cells #[.int .i64 27, .string s, .int .i64 n, .slice ao l cap] 29)).drew).trans hu))).mx
    refine (lib_strings_ReplaceAll s ⟨#[32]⟩ ⟨#[44, 32]⟩ m u (by omega) hm (by decide) (by have := count_le s; show _ + _ * 2 ≤ _; omega)).mono ?_
    rintro e w' ⟨rfl, h⟩
    exact ⟨by rw [← replace_names s]; rfl, h⟩
  obtain ⟨R, hRR⟩ : ∃ R, namesT s = R := ⟨_, rfl⟩
  rw [hRR] at HC hR
  simp only [hRR]
  clear hRR hE
  have p0 : ¬ 9223372036854775807 < 9 + R.size := by omega
  have p1 : ¬ 9223372036854775807 < 9 + R.size + 2 := by omega
  have p2 : ¬ 9223372036854775807 < 9 + R.size + 2 + x.size := by omega
  have kd : Kept (w.alloc (.cells #[.int .i64 27, .string s, .int .i64 n, .slice ao l cap] 29)) (w.alloc (.cells #[.int .i64 27, .string s, .int .i64 n, .slice ao l cap] 29)).drew := (Below.refl _ _).drew
  have X0 : ∀ u, Kept (w.alloc (.cells #[.int .i64 27, .string s, .int .i64 n, .slice ao l cap] 29)).drew u → u.cell? ⟨w.heap.size, 0, none⟩ = some (.int .i64 27) := fun u hu => (b0.kept (kd.trans hu)).cell 0
  have X1 : ∀ u, Kept (w.alloc (.cells #[.int .i64 27, .string s, .int .i64 n, .slice ao l cap] 29)).drew u → u.cell? ⟨w.heap.size, 1, none⟩ = some (.string s) := fun u hu => (b0.kept (kd.trans hu)).cell 1
  have X2 : ∀ u, Kept (w.alloc (.cells #[.int .i64 27, .string s, .int .i64 n, .slice ao l cap] 29)).drew u → u.cell? ⟨w.heap.size, 2, none⟩ = some (.int .i64 n) := fun u hu => (b0.kept (kd.trans hu)).cell 2
  have X3 : ∀ u, Kept (w.alloc (.cells #[.int .i64 27, .string s, .int .i64 n, .slice ao l cap] 29)).drew u → u.cell? ⟨w.heap.size, 3, none⟩ = some (.slice ao l cap) := fun u hu => (b0.kept (kd.trans hu)).cell 3
  have K0 : ∀ u, Kept (w.alloc (.cells #[.int .i64 27, .string s, .int .i64 n, .slice ao l cap] 29)).drew u → u.cell? ⟨kb, 0, none⟩ = some (.string x) := fun u hu => kept_cell (k0.trans (kd.trans hu)) hk0
  go_enter Tryz.func95, Tryz.ntmps95
  go_wp2_with fail
  refine wp_region_seqL (by kernel_rfl) (by kernel_rfl) ?_
  repeat (first
    | (refine SeqL.skip (by rfl) ?_; simp only [Act.put, List.setIfInBounds_toArray, List.set_cons_zero, List.set_cons_succ])
    | (refine SeqL.pure ?_ (by rfl) ?_ ?_; rotate_left; (focus (intro u hu; have x0' := X0 u hu; have x1' := X1 u hu; have x2' := X2 u hu; have x3' := X3 u hu; have y0' := K0 u hu;  go_simp; first | done | exact rfl)); simp only [Act.put, List.setIfInBounds_toArray, List.set_cons_zero, List.set_cons_succ])
    | (refine SeqL.call _ _ _ (by rfl) ?_ HC.out ?_; (focus (intro u; go_simp; done)); simp only [Act.put, List.setIfInBounds_toArray, List.set_cons_zero, List.set_cons_succ])  )
  refine SeqL.nil ?_
  intro w2 hk2
  go_simp
  go_wp2_with fail
  go_ret
  exact ⟨rfl, k0.trans (kd.trans hk2)⟩
end Go.Proofs.YtejpjbfmjmfnmaaGreatDoor
namespace Go.Proofs.YtejpjbfmjmfnmaaGreatDoor
open Go.RowKit
set_option linter.unusedSimpArgs false
set_option linter.unusedVariables false

/-- The texts xs lie side by side from ⟨kb, 0⟩ on. -/
def KidT (W : World) (kb : Nat) (xs : List ByteArray) : Prop := ∀ (j : Nat) t, xs[j]? = some t → W.cell? ⟨kb, j, none⟩ = some (.string t)
theorem KidT.kept {W W' : World} {kb : Nat} {xs : List ByteArray} (h : KidT W kb xs) (hk : Kept W W') : KidT W' kb xs := fun j t ht => kept_cell hk (h j t ht)
theorem joinK (w : World) (kb c : Nat) (x : ByteArray) (xs : List ByteArray) (h : KidT w kb (x :: xs)) (hz : sumT (x :: xs) + 2 * (x :: xs).length ≤ 100000000) (hc : (x :: xs).length ≤ c) :
    Calls Tryz.prog 103 #[.slice (some ⟨kb, 0, none⟩) (x :: xs).length c, .string ⟨#[44, 32]⟩] w fun e w' => e = .returned (.string (commaT (x :: xs))) ∧ Kept w w' := by
  have hlt : kb < w.heap.size := World.block_lt_of_cell? _ _ (h 0 x rfl)
  refine (lib_strings_Join kb 0 c (x :: xs) ⟨#[44, 32]⟩ w (fun j t ht => by rw [Nat.zero_add]; exact h j t ht) hlt (by omega) hc (by
    have := comma_size (x :: xs)
    have e := join_len (x :: xs)
    show (Lib.join _ [44, 32]).length ≤ _
    omega)).mono ?_
  rintro e w' ⟨rfl, hk⟩
  exact ⟨by rw [← join_comma (x :: xs)], hk⟩
theorem joinK1 (w : World) (kb c : Nat) (x y : ByteArray) (xs : List ByteArray) (h : KidT w kb (x :: y :: xs)) (hz : sumT (y :: xs) + 2 * (y :: xs).length ≤ 100000000) (hc : (y :: xs).length ≤ c) :
    Calls Tryz.prog 103 #[.slice (some ⟨kb, 1, none⟩) (y :: xs).length c, .string ⟨#[44, 32]⟩] w fun e w' => e = .returned (.string (commaT (y :: xs))) ∧ Kept w w' := by
  have hlt : kb < w.heap.size := World.block_lt_of_cell? _ _ (h 0 x rfl)
  refine (lib_strings_Join kb 1 c (y :: xs) ⟨#[44, 32]⟩ w (fun j t ht => by rw [Nat.add_comm]; exact h (j + 1) t (by simpa using ht)) hlt (by omega) hc (by
    have := comma_size (y :: xs)
    have e := join_len (y :: xs)
    show (Lib.join _ [44, 32]).length ≤ _
    omega)).mono ?_
  rintro e w' ⟨rfl, hk⟩
  exact ⟨by rw [← join_comma (y :: xs)], hk⟩
set_option maxHeartbeats 8000000 in
set_option maxRecDepth 100000 in
theorem writeObj_ok (w : World) (n : Int) (s : ByteArray) (ao ka : Option Addr) (l cap kc : Nat) (xs : List ByteArray) (hK : xs = [] ∨ ∃ kb, ka = some ⟨kb, 0, none⟩ ∧ KidT w kb xs) (hkc : xs.length ≤ kc) (hz : sumT xs + 2 * xs.length ≤ 100000000) :
    Calls Tryz.prog 93 #[.agg #[.int .i64 25, .string s, .int .i64 n, .slice ao l cap], .slice ka xs.length kc] w fun e w' => e = .returned (.string ((⟨#[123]⟩ ++ commaT xs) ++ ⟨#[125]⟩)) ∧ Kept w w' := by
  have k0 : Kept w (w.alloc (.cells #[.int .i64 25, .string s, .int .i64 n, .slice ao l cap] 29)) := Kept.alloc (Below.refl _ _) _
  have hC : Calls Tryz.prog 103 #[.slice ka xs.length kc, .string ⟨#[44, 32]⟩] (w.alloc (.cells #[.int .i64 25, .string s, .int .i64 n, .slice ao l cap] 29)) fun e w' => e = .returned (.string (commaT xs)) ∧ Kept (w.alloc (.cells #[.int .i64 25, .string s, .int .i64 n, .slice ao l cap] 29)) w' := by
    match xs, hK with
    | [], _ =>
      refine (lib_strings_Join_none ka kc ⟨#[44, 32]⟩ _).mono ?_
      rintro e w' ⟨rfl, rfl⟩
      exact ⟨rfl, Below.refl _ _⟩
    | x :: r, .inr ⟨kb, e, h⟩ =>
      subst e
      exact joinK _ kb kc x r (h.kept k0) hz hkc
    | x :: r, .inl h => cases h
  have hcz := comma_size xs
  obtain ⟨D, hD⟩ : ∃ D, commaT xs = D := ⟨_, rfl⟩
  rw [hD] at hC hcz
  simp only [hD]
  have p0 : ¬ 9223372036854775807 < 1 + D.size := by omega
  have p1 : ¬ 9223372036854775807 < 1 + D.size + 1 := by omega
  obtain ⟨L, hL⟩ : ∃ L, xs.length = L := ⟨_, rfl⟩
  rw [hL] at hC
  simp only [hL]
  clear hD hcz hz hK hL hkc
  go_enter Tryz.func93, Tryz.ntmps93
  go_wp2_with (go_at_call 103; refine hC.mono ?_; rintro e w1 ⟨rfl, hk1⟩)
  go_ret
  exact ⟨rfl, k0.trans hk1⟩
set_option maxHeartbeats 8000000 in
set_option maxRecDepth 100000 in
theorem writeCall_ok (w : World) (n : Int) (s : ByteArray) (ao : Option Addr) (l cap kb kc : Nat) (x : ByteArray) (r : List ByteArray) (hK : KidT w kb (x :: r)) (hkc : (x :: r).length ≤ kc) (hkm : kc ≤ 9223372036854775807) (hz : sumT (x :: r) + 2 * (x :: r).length ≤ 100000000) :
    Calls Tryz.prog 90 #[.agg #[.int .i64 18, .string s, .int .i64 n, .slice ao l cap], .slice (some ⟨kb, 0, none⟩) (x :: r).length kc] w fun e w' => e = .returned (.string ((((⟨#[40]⟩ ++ x) ++ ⟨#[41, 40]⟩) ++ commaT r) ++ ⟨#[41]⟩)) ∧ Kept w w' := by
  have k0 : Kept w (w.alloc (.cells #[.int .i64 18, .string s, .int .i64 n, .slice ao l cap] 29)) := Kept.alloc (Below.refl _ _) _
  have kd : Kept (w.alloc (.cells #[.int .i64 18, .string s, .int .i64 n, .slice ao l cap] 29)) (w.alloc (.cells #[.int .i64 18, .string s, .int .i64 n, .slice ao l cap] 29)).drew := (Below.refl _ _).drew
  have hx : x.size ≤ 100000000 := by simp only [sumT] at hz; omega
  have hz2 : sumT r + 2 * r.length ≤ 100000000 := by simp only [sumT, List.length_cons] at hz; omega
  have hcz := comma_size r
  have hcc : (⟨#[]⟩ : ByteArray).size = 0 := rfl
  have K0 : ∀ u, Kept (w.alloc (.cells #[.int .i64 18, .string s, .int .i64 n, .slice ao l cap] 29)).drew u → u.cell? ⟨kb, 0, none⟩ = some (.string x) := fun u hu => kept_cell (k0.trans (kd.trans hu)) (hK 0 x rfl)
  have hJ : ∀ (off c : Nat), (r = [] ∨ (off = 1 ∧ r.length ≤ c)) → ∀ u, Kept (w.alloc (.cells #[.int .i64 18, .string s, .int .i64 n, .slice ao l cap] 29)).drew u → Calls Tryz.prog 103 #[.slice (some ⟨kb, off, none⟩) r.length c, .string ⟨#[44, 32]⟩] u fun e w' => e = .returned (.string (commaT r)) ∧ Kept u w' := fun off c h u hu => by
    match r, h with
    | [], _ =>
      refine (lib_strings_Join_none _ c ⟨#[44, 32]⟩ u).mono ?_
      rintro e w' ⟨rfl, rfl⟩
      exact ⟨rfl, Below.refl _ _⟩
    | y :: r, .inr ⟨h1, h2⟩ =>
      subst h1
      exact joinK1 u kb c x y r (hK.kept (k0.trans (kd.trans hu))) hz2 h2
    | y :: r, .inl h => cases h
  obtain ⟨D, hD⟩ : ∃ D, commaT r = D := ⟨_, rfl⟩
  rw [hD] at hJ hcz
  simp only [hD, List.length_cons] at hkc ⊢
  have p0 : ¬ 9223372036854775807 < 1 + x.size := by omega
  have p1 : ¬ 9223372036854775807 < 1 + x.size + 2 := by omega
  have p2 : ¬ 9223372036854775807 < 1 + x.size + 2 + D.size := by omega
  have p3 : ¬ 9223372036854775807 < 1 + x.size + 2 + D.size + 1 := by omega
  have q0 : (0 : Int) < (r.length : Int) + 1 := by omega
  have q1 : (1 : Int) ≤ (r.length : Int) + 1 := by omega
  have q2 : (r.length : Int) + 1 ≤ (kc : Int) := by omega
  by_cases h1 : kc = 1
  · subst h1
    have hr : r = [] := List.length_eq_zero_iff.1 (by omega)
    subst hr
    have HC : Hid _ := hJ 0 0 (.inl rfl)
    clear hJ hK hz hz2 hcz hD hx hkc
    simp only [List.length_nil, Nat.zero_add]
    go_enter Tryz.func90, Tryz.ntmps90
    go_wp2_with fail
    refine wp_region_seqL (by kernel_rfl) (by kernel_rfl) ?_
    repeat (first
      | (refine SeqL.skip (by rfl) ?_; simp only [Act.put, List.setIfInBounds_toArray, List.set_cons_zero, List.set_cons_succ])
      | (refine SeqL.pure ?_ (by rfl) ?_ ?_; rotate_left; (focus (intro u hu; have y0' := K0 u hu; go_simp; first | done | exact rfl)); simp only [Act.put, List.setIfInBounds_toArray, List.set_cons_zero, List.set_cons_succ])
      | (refine SeqL.call _ _ _ (by rfl) ?_ HC.out ?_; (focus (intro u; go_simp; done)); simp only [Act.put, List.setIfInBounds_toArray, List.set_cons_zero, List.set_cons_succ]))
    refine SeqL.nil ?_
    intro w2 hk2
    go_simp
    go_wp2_with fail
    go_ret
    exact ⟨rfl, k0.trans (kd.trans hk2)⟩
  · have hlt : 1 < kc := by omega
    have q3 : (1 : Int) < (kc : Int) := by omega
    have HC : Hid _ := hJ 1 (kc - 1) (.inr ⟨rfl, by omega⟩)
    have q4 : ((kc : Int) - 1).toNat = kc - 1 := by omega
    have q5 : ¬ (1 : Int) = (kc : Int) := by omega
    have q6 : ¬ 1 = kc := by omega
    have q7 : ¬ kc = 1 := h1
    clear hJ hK hz hz2 hcz hD hx
    go_enter Tryz.func90, Tryz.ntmps90
    go_wp2_with fail
    refine wp_region_seqL (by kernel_rfl) (by kernel_rfl) ?_
    repeat (first
      | (refine SeqL.skip (by rfl) ?_; simp only [Act.put, List.setIfInBounds_toArray, List.set_cons_zero, List.set_cons_succ])
      | (refine SeqL.pure ?_ (by rfl) ?_ ?_; rotate_left; (focus (intro u hu; have y0' := K0 u hu; go_simp; first | done | exact rfl)); simp only [Act.put, List.setIfInBounds_toArray, List.set_cons_zero, List.set_cons_succ])
      | (refine SeqL.call _ _ _ (by rfl) ?_ HC.out ?_; (focus (intro u; go_simp; done)); simp only [Act.put, List.setIfInBounds_toArray, List.set_cons_zero, List.set_cons_succ]))
    refine SeqL.nil ?_
    intro w2 hk2
    go_simp
    go_wp2_with fail
    go_ret
    exact ⟨rfl, k0.trans (kd.trans hk2)⟩
/-- A builder that holds a text. -/
def BldB (w : World) (B : Nat) (t : ByteArray) : Prop := Lib.IsBuilderF 60 5 B B (Lib.byteCells t.data.toList) w
theorem BldB.new (w : World) : BldB (w.alloc (.cells #[.pointer none, .slice none 0 0] 60)) w.heap.size ⟨#[]⟩ := Lib.IsBuilderF.of (Lib.fresh_isBuilder 60 5 w)
theorem BldB.lt {w : World} {B : Nat} {t : ByteArray} (h : BldB w B t) : B < w.heap.size := h.elim (fun x => x.lt) (fun x => x.lt)
theorem WriteStringB_ok (w : World) (B : Nat) (t s : ByteArray) (h : BldB w B t) (hlen : t.size + s.size ≤ 140737488355328) :
    Calls Tryz.prog 35 #[.pointer (some ⟨B, 0, none⟩), .string s] w fun e w' => e = .returned (.tuple #[.int .i64 (s.size : Nat), .nilIface]) ∧ BldB w' B (t ++ s) ∧ Below B w w' ∧ Lib.OthersKept 5 (some B) w w' := by
  refine (lib_Builder_WriteString_k B B _ s w h (by rw [Lib.byteCells_length, Array.length_toList]; exact hlen) (Nat.le_of_lt h.lt)).mono ?_
  rintro e w' ⟨rfl, h1, h2, h3⟩
  refine ⟨rfl, .inr ?_, h2, h3⟩
  have e1 : Lib.byteCells t.data.toList ++ Lib.strCells s = Lib.byteCells (t ++ s).data.toList := by
    rw [ByteArray.data_append, Array.toList_append, Lib.byteCells_append]
    rfl
  rw [e1] at h1
  exact h1
theorem StringB_ok (w : World) (B : Nat) (t : ByteArray) (h : BldB w B t) :
    Calls Tryz.prog 36 #[.pointer (some ⟨B, 0, none⟩)] w fun e w' => e = .returned (.string t) ∧ Below B w w' := by
  refine (lib_Builder_String_any_k B B _ w h (Nat.le_of_lt h.lt)).mono ?_
  rintro e w' ⟨rfl, h1, h2, h3⟩
  exact ⟨rfl, h2⟩
theorem linesB_snoc (xs : List ByteArray) (x : ByteArray) : linesT (xs ++ [x]) = linesT xs ++ (x ++ ⟨#[10]⟩) := by
  have e0 : (⟨#[]⟩ : ByteArray) = ByteArray.empty := rfl
  induction xs with
  | nil => simp only [List.nil_append, linesT]; rw [e0, ByteArray.append_empty, ByteArray.empty_append]
  | cons y r ih => simp only [List.cons_append, linesT, ih, ByteArray.append_assoc]
theorem sumT_takeB (xs : List ByteArray) (k : Nat) : sumT (xs.take k) ≤ sumT xs := by
  induction xs generalizing k with
  | nil => simp
  | cons x r ih =>
    cases k with
    | zero => simp [sumT]
    | succ k => have := ih k; simp only [List.take_succ_cons, sumT]; omega
set_option maxHeartbeats 8000000 in
set_option maxRecDepth 100000 in
theorem withLines_ok (w : World) (ka : Option Addr) (kc : Nat) (xs : List ByteArray) (hK : xs = [] ∨ ∃ kb, ka = some ⟨kb, 0, none⟩ ∧ KidT w kb xs) (hz : sumT xs + 2 * xs.length ≤ 100000000) :
    Calls Tryz.prog 21 #[.slice ka xs.length kc] w fun e w' => e = .returned (.string (linesT xs)) ∧ Kept w w' := by
  have k0 : Kept w (w.alloc (.cells #[.pointer none, .slice none 0 0] 60)) := Kept.alloc (Below.refl _ _) _
  have hB0 : Hid _ := BldB.new w
  have HK : Hid (xs = [] ∨ ∃ kb, ka = some ⟨kb, 0, none⟩ ∧ KidT w kb xs) := hK
  have HK0 : Hid _ := k0
  have hln : xs.length ≤ 50000000 := by omega
  have HS : Hid (∀ k, (linesT (xs.take k)).size ≤ 100000000) := fun k => by
    rw [lines_size]
    have := sumT_takeB xs k
    have h2 : (xs.take k).length ≤ xs.length := by rw [List.length_take]; omega
    omega
  have HX : Hid (∀ x ∈ xs, x.size ≤ 100000000) := fun x hx => by
    obtain ⟨k, hk⟩ := List.getElem?_of_mem hx
    have := get_sum xs k
    rw [List.getD_eq_getElem?_getD, hk] at this
    simp at this
    omega
  clear hK k0 hz
  go_enter Tryz.func21, Tryz.ntmps21
  go_wp2_with fail
  go_loopw [8] (fun i wr => ∃ k : Nat, i = .int .i64 k ∧ k ≤ xs.length ∧ Hid (BldB wr w.heap.size (linesT (xs.take k))) ∧ Hid (Kept w wr)) (fun i _ => xs.length - (intOf i).toNat)
  case atStart => exact ⟨0, rfl, Nat.zero_le _, hB0.out, HK0.out⟩
  case round =>
    obtain ⟨k, rfl, hk, hB, hKp⟩ := hrel
    have hO := HS.out k
    by_cases hlt : k < xs.length
    · obtain ⟨x, hx⟩ : ∃ x, xs[k]? = some x := ⟨_, List.getElem?_eq_getElem hlt⟩
      obtain ⟨kb, rfl, hT⟩ : ∃ kb, ka = some ⟨kb, 0, none⟩ ∧ KidT w kb xs := by
        rcases HK.out with h | h
        · rw [h] at hlt; simp at hlt
        · exact h
      have c0 := kept_cell hKp.out (hT k x hx)
      have hxz := HX.out x (List.mem_of_getElem? hx)
      have q1 : (k : Int) < (xs.length : Int) := by omega
      have p0 : ¬ 9223372036854775807 < x.size + 1 := by omega
      have hz1 : (x ++ (⟨#[10]⟩ : ByteArray)).size = x.size + 1 := by rw [ByteArray.size_append]; rfl
      have hW := WriteStringB_ok wr w.heap.size _ (x ++ ⟨#[10]⟩) hB.out (by omega)
      have HN : Hid (linesT (xs.take k) ++ (x ++ ⟨#[10]⟩) = linesT (xs.take (k + 1))) := by
        rw [Hid, List.take_add_one, hx]
        exact (linesB_snoc _ _).symm
      rw [HN.out] at hW
      clear hx hT hO hxz
      go_wp2_with (go_at_call 35; refine hW.mono ?_; rintro e w1 ⟨rfl, hB1, hb1, ho1⟩)
      go_roundw
      case rel => exact ⟨k + 1, by go_num, by omega, hB1, Below.trans hKp.out hb1⟩
      case measure => simp [intOf]; omega
    · have q1 : ¬ (k : Int) < (xs.length : Int) := by omega
      have hS := StringB_ok wr w.heap.size _ hB.out
      have HF : Hid (linesT (xs.take k) = linesT xs) := by rw [Hid, List.take_of_length_le (by omega)]
      rw [HF.out] at hS
      go_wp2_with (go_at_call 36; refine hS.mono ?_; rintro e w1 ⟨rfl, hb1⟩)
      go_ret
      exact ⟨rfl, Below.trans hKp.out hb1⟩
set_option maxHeartbeats 8000000 in
set_option maxRecDepth 100000 in
theorem writeBlock_ok (w : World) (n : Int) (s : ByteArray) (ao ka : Option Addr) (l cap kc : Nat) (xs : List ByteArray) (hK : xs = [] ∨ ∃ kb, ka = some ⟨kb, 0, none⟩ ∧ KidT w kb xs) (hz : sumT xs + 2 * xs.length ≤ 100000000) :
    Calls Tryz.prog 59 #[.agg #[.int .i64 1, .string s, .int .i64 n, .slice ao l cap], .slice ka xs.length kc] w fun e w' => e = .returned (.string ((⟨#[123, 10]⟩ ++ linesT xs) ++ ⟨#[125]⟩)) ∧ Kept w w' := by
  have k0 : Kept w (w.alloc (.cells #[.int .i64 1, .string s, .int .i64 n, .slice ao l cap] 29)) := Kept.alloc (Below.refl _ _) _
  have hC := withLines_ok (w.alloc (.cells #[.int .i64 1, .string s, .int .i64 n, .slice ao l cap] 29)) ka kc xs (by
    rcases hK with h | ⟨kb, e, h⟩
    · exact .inl h
    · exact .inr ⟨kb, e, h.kept k0⟩) hz
  have hcz := lines_size xs
  obtain ⟨D, hD⟩ : ∃ D, linesT xs = D := ⟨_, rfl⟩
  rw [hD] at hC hcz
  simp only [hD]
  have p0 : ¬ 9223372036854775807 < 2 + D.size := by omega
  have p1 : ¬ 9223372036854775807 < 2 + D.size + 1 := by omega
  obtain ⟨L, hL⟩ : ∃ L, xs.length = L := ⟨_, rfl⟩
  rw [hL] at hC
  simp only [hL]
  clear hD hcz hz hK hL
  go_enter Tryz.func59, Tryz.ntmps59
  go_wp2_with (go_at_call 21; refine hC.mono ?_; rintro e w1 ⟨rfl, hk1⟩)
  go_ret
  exact ⟨rfl, k0.trans hk1⟩
end Go.Proofs.YtejpjbfmjmfnmaaGreatDoor
