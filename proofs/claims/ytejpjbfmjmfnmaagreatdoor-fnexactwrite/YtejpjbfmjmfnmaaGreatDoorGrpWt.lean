/-
  The contract of chapter 13's model l13Expr, op by op (genWe.py).
  The contract of chapter 13's model l13Signs: a new row of the five signs.
  The contract of chapter 13's model l13Expr at a function.
  The contract of chapter 13's model l13Expr at the five signs (genWf.py).
-/
import Derived.Test.YtejpjbfmjmfnmaaGreatDoorGrpTa
import Derived.Test.YtejpjbfmjmfnmaaGreatDoorSeqR
namespace Go.Proofs.YtejpjbfmjmfnmaaGreatDoor
open Go.RowKit
set_option linter.unusedSimpArgs false

theorem ex13_11 (s : ByteArray) (n : Int) (hsb : s.size ≤ 1048576) (w : World) (base : Nat) (v : Value) (hv : NdV w base (.mk 11 s n []) v) :
    Calls Tryz.prog 31 #[v] w fun e w' => e = .returned (.string (wT (.mk 11 s n []))) ∧ Kept w w' := by
  rw [NdV] at hv
  obtain ⟨ao, cap, rfl, hml, hks⟩ := hv
  simp only [List.length_nil]
  have k0 : Kept w (w.alloc (.cells #[.int .i64 11, .string s, .int .i64 n, .slice ao 0 cap] 29)) := Kept.alloc (Below.refl _ _) _
  have HW : Hid (wT (.mk 11 s n []) = (⟨#[34]⟩ ++ s) ++ ⟨#[34]⟩) := by rw [Hid, wT]; rfl
  have p0 : ¬ 9223372036854775807 < 1 + s.size := by omega
  have p1 : ¬ 9223372036854775807 < 1 + s.size + 1 := by omega
  have _hs := hsb
  clear _hs hks hml hsb
  go_enter Tryz.func31, Tryz.ntmps31
  go_wp2_with fail
  go_ret
  exact ⟨by rw [HW.out]; rfl, k0⟩
theorem ex13_12 (s : ByteArray) (n : Int) (hsb : s.size ≤ 1048576) (w : World) (base : Nat) (v : Value) (hv : NdV w base (.mk 12 s n []) v) :
    Calls Tryz.prog 31 #[v] w fun e w' => e = .returned (.string (wT (.mk 12 s n []))) ∧ Kept w w' := by
  rw [NdV] at hv
  obtain ⟨ao, cap, rfl, hml, hks⟩ := hv
  simp only [List.length_nil]
  have k0 : Kept w (w.alloc (.cells #[.int .i64 12, .string s, .int .i64 n, .slice ao 0 cap] 29)) := Kept.alloc (Below.refl _ _) _
  have HW : Hid (wT (.mk 12 s n []) = ⟨#[116, 114, 117, 101]⟩) := by rw [Hid, wT]; rfl
  have _hs := hsb
  clear _hs hks hml hsb
  go_enter Tryz.func31, Tryz.ntmps31
  go_wp2_with fail
  go_ret
  exact ⟨by rw [HW.out]; rfl, k0⟩
theorem ex13_13 (s : ByteArray) (n : Int) (hsb : s.size ≤ 1048576) (w : World) (base : Nat) (v : Value) (hv : NdV w base (.mk 13 s n []) v) :
    Calls Tryz.prog 31 #[v] w fun e w' => e = .returned (.string (wT (.mk 13 s n []))) ∧ Kept w w' := by
  rw [NdV] at hv
  obtain ⟨ao, cap, rfl, hml, hks⟩ := hv
  simp only [List.length_nil]
  have k0 : Kept w (w.alloc (.cells #[.int .i64 13, .string s, .int .i64 n, .slice ao 0 cap] 29)) := Kept.alloc (Below.refl _ _) _
  have HW : Hid (wT (.mk 13 s n []) = ⟨#[102, 97, 108, 115, 101]⟩) := by rw [Hid, wT]; rfl
  have _hs := hsb
  clear _hs hks hml hsb
  go_enter Tryz.func31, Tryz.ntmps31
  go_wp2_with fail
  go_ret
  exact ⟨by rw [HW.out]; rfl, k0⟩
theorem ex13_14 (s : ByteArray) (n : Int) (hsb : s.size ≤ 1048576) (w : World) (base : Nat) (v : Value) (hv : NdV w base (.mk 14 s n []) v) :
    Calls Tryz.prog 31 #[v] w fun e w' => e = .returned (.string (wT (.mk 14 s n []))) ∧ Kept w w' := by
  rw [NdV] at hv
  obtain ⟨ao, cap, rfl, hml, hks⟩ := hv
  simp only [List.length_nil]
  have k0 : Kept w (w.alloc (.cells #[.int .i64 14, .string s, .int .i64 n, .slice ao 0 cap] 29)) := Kept.alloc (Below.refl _ _) _
  have HW : Hid (wT (.mk 14 s n []) = ⟨#[110, 117, 108, 108]⟩) := by rw [Hid, wT]; rfl
  have _hs := hsb
  clear _hs hks hml hsb
  go_enter Tryz.func31, Tryz.ntmps31
  go_wp2_with fail
  go_ret
  exact ⟨by rw [HW.out]; rfl, k0⟩
theorem ex13_15 (s : ByteArray) (n : Int) (hsb : s.size ≤ 1048576) (w : World) (base : Nat) (v : Value) (hv : NdV w base (.mk 15 s n []) v) :
    Calls Tryz.prog 31 #[v] w fun e w' => e = .returned (.string (wT (.mk 15 s n []))) ∧ Kept w w' := by
  rw [NdV] at hv
  obtain ⟨ao, cap, rfl, hml, hks⟩ := hv
  simp only [List.length_nil]
  have k0 : Kept w (w.alloc (.cells #[.int .i64 15, .string s, .int .i64 n, .slice ao 0 cap] 29)) := Kept.alloc (Below.refl _ _) _
  have HW : Hid (wT (.mk 15 s n []) = ⟨#[117, 110, 100, 101, 102, 105, 110, 101, 100]⟩) := by rw [Hid, wT]; rfl
  have _hs := hsb
  clear _hs hks hml hsb
  go_enter Tryz.func31, Tryz.ntmps31
  go_wp2_with fail
  go_ret
  exact ⟨by rw [HW.out]; rfl, k0⟩
theorem ex13_16 (s : ByteArray) (n : Int) (hsb : s.size ≤ 1048576) (w : World) (base : Nat) (v : Value) (hv : NdV w base (.mk 16 s n []) v) :
    Calls Tryz.prog 31 #[v] w fun e w' => e = .returned (.string (wT (.mk 16 s n []))) ∧ Kept w w' := by
  rw [NdV] at hv
  obtain ⟨ao, cap, rfl, hml, hks⟩ := hv
  simp only [List.length_nil]
  have k0 : Kept w (w.alloc (.cells #[.int .i64 16, .string s, .int .i64 n, .slice ao 0 cap] 29)) := Kept.alloc (Below.refl _ _) _
  have HW : Hid (wT (.mk 16 s n []) = s) := by rw [Hid, wT]; rfl
  have _hs := hsb
  clear _hs hks hml hsb
  go_enter Tryz.func31, Tryz.ntmps31
  go_wp2_with fail
  go_ret
  exact ⟨by rw [HW.out]; rfl, k0⟩
theorem ex13_10 (s : ByteArray) (n : Int) (hn : -2147483647 ≤ n ∧ n ≤ 2147483647) (w : World) (base : Nat) (v : Value) (hv : NdV w base (.mk 10 s n []) v) :
    Calls Tryz.prog 31 #[v] w fun e w' => e = .returned (.string (wT (.mk 10 s n []))) ∧ Kept w w' := by
  rw [NdV] at hv
  obtain ⟨ao, cap, rfl, hml, hks⟩ := hv
  simp only [List.length_nil]
  have k0 : Kept w (w.alloc (.cells #[.int .i64 10, .string s, .int .i64 n, .slice ao 0 cap] 29)) := Kept.alloc (Below.refl _ _) _
  have hC := l7Digits_ok (w.alloc (.cells #[.int .i64 10, .string s, .int .i64 n, .slice ao 0 cap] 29)) n (by omega)
  have hd := digI_len (n := n) (by omega)
  have hz : (strOfNums (digI n)).size = (digI n).length := strOfNums_size _
  by_cases h0 : n < 0
  · have HW : Hid (wT (.mk 10 s n []) = (⟨#[40]⟩ ++ strOfNums (digI n)) ++ ⟨#[41]⟩) := by
      rw [Hid, wT]
      show (if n < 0 then _ else _) = _
      rw [if_pos h0]
    obtain ⟨D, hD⟩ : ∃ D, strOfNums (digI n) = D := ⟨_, rfl⟩
    rw [hD] at HW hC hz
    have p0 : ¬ 9223372036854775807 < 1 + D.size := by omega
    have p1 : ¬ 9223372036854775807 < 1 + D.size + 1 := by omega
    clear hks hml hD hz hd hn
    go_enter Tryz.func31, Tryz.ntmps31
    go_wp2_with (go_at_call 49; refine hC.mono ?_; rintro e w1 ⟨rfl, hk1⟩)
    go_ret
    exact ⟨by rw [HW.out]; rfl, k0.trans hk1⟩
  · have HW : Hid (wT (.mk 10 s n []) = strOfNums (digI n)) := by
      rw [Hid, wT]
      show (if n < 0 then _ else _) = _
      rw [if_neg h0]
    have q0 : decide (n < 0) = false := decide_eq_false h0
    obtain ⟨D, hD⟩ : ∃ D, strOfNums (digI n) = D := ⟨_, rfl⟩
    rw [hD] at HW hC hz
    clear hks hml hD hz hd hn h0
    go_enter Tryz.func31, Tryz.ntmps31
    go_wp2_with (go_at_call 49; refine hC.mono ?_; rintro e w1 ⟨rfl, hk1⟩)
    go_ret
    exact ⟨by rw [HW.out]; rfl, k0.trans hk1⟩
set_option maxHeartbeats 8000000 in
set_option maxRecDepth 100000 in
theorem ex13_24 (m : Nat) (H : TxEx m) (s : ByteArray) (n : Int) (x : Nd) (hx0 : x.size ≤ m) (hx2 : x.size ≤ 200) (hxb : x.bulk ≤ 1048576) (hsb : s.size ≤ 1048576) (hok : okT x = true) (hst : st x.op = 3) (w : World) (base : Nat) (v : Value) (hv : NdV w base (.mk 24 s n [x]) v) :
    Calls Tryz.prog 31 #[v] w fun e w' => e = .returned (.string (wT (.mk 24 s n [x]))) ∧ Kept w w' := by
  rw [NdV] at hv
  obtain ⟨ao, cap, rfl, hml, hks⟩ := hv
  simp only [List.length_cons, List.length_nil, Nat.zero_add]
  have b0 := Cells.new w 29 #[.int .i64 24, .string s, .int .i64 n, .slice ao 1 cap]
  have k0 : Kept w (w.alloc (.cells #[.int .i64 24, .string s, .int .i64 n, .slice ao 1 cap] 29)) := Kept.alloc (Below.refl _ _) _
  obtain ⟨b, off, a2, cq, rfl, g0, g1, g2, g3, hv⟩ := kid_0 hks k0 (x := x) rfl
  have hC := H x hx0 hx2 hxb hok hst _ base _ hv
  have hE4 := wT_small hok hx2 hxb
  have HW : Hid (wT (.mk 24 s n [x]) = ((⟨#[33, 40]⟩ ++ wT x) ++ ⟨#[41]⟩)) := by rw [Hid, wT]; rfl
  obtain ⟨E, hE⟩ : ∃ E, wT x = E := ⟨_, rfl⟩
  rw [hE] at hC hE4 HW
  obtain ⟨xo, hxo⟩ : ∃ o, x.op = o := ⟨_, rfl⟩
  obtain ⟨xs, hxs'⟩ : ∃ o, x.s = o := ⟨_, rfl⟩
  obtain ⟨xn, hxn⟩ : ∃ o, x.n = o := ⟨_, rfl⟩
  obtain ⟨xl, hxl⟩ : ∃ o, x.kids.length = o := ⟨_, rfl⟩
  rw [hxo, hxs', hxn, hxl] at hC
  rw [hxo] at g0
  rw [hxs'] at g1
  rw [hxn] at g2
  rw [hxl] at g3
  have p0 : ¬ 9223372036854775807 < 2 + E.size := by omega
  have p1 : ¬ 9223372036854775807 < 2 + E.size + 1 := by omega
  have _hs := hsb
  clear _hs hks hml hv hE hxo hxs' hxn hxl hok hst hx0 hx2 hxb hE4 hsb H
  go_enter Tryz.func31, Tryz.ntmps31
  go_wp2_with (go_at_call 31; refine hC.mono ?_; rintro e w1 ⟨rfl, hk1⟩; have y := b0.kept hk1; have c0 := y.cell 0; have c1 := y.cell 1; have c2 := y.cell 2; have c3 := y.cell 3; simp at c0 c1 c2 c3)
  go_ret
  exact ⟨by rw [HW.out]; rfl, k0.trans hk1⟩
set_option maxHeartbeats 8000000 in
set_option maxRecDepth 100000 in
theorem ex13_17 (m : Nat) (H : TxEx m) (s : ByteArray) (n : Int) (x : Nd) (hx0 : x.size ≤ m) (hx2 : x.size ≤ 200) (hxb : x.bulk ≤ 1048576) (hsb : s.size ≤ 1048576) (hok : okT x = true) (hst : st x.op = 3) (w : World) (base : Nat) (v : Value) (hv : NdV w base (.mk 17 s n [x]) v) :
    Calls Tryz.prog 31 #[v] w fun e w' => e = .returned (.string (wT (.mk 17 s n [x]))) ∧ Kept w w' := by
  rw [NdV] at hv
  obtain ⟨ao, cap, rfl, hml, hks⟩ := hv
  simp only [List.length_cons, List.length_nil, Nat.zero_add]
  have b0 := Cells.new w 29 #[.int .i64 17, .string s, .int .i64 n, .slice ao 1 cap]
  have k0 : Kept w (w.alloc (.cells #[.int .i64 17, .string s, .int .i64 n, .slice ao 1 cap] 29)) := Kept.alloc (Below.refl _ _) _
  obtain ⟨b, off, a2, cq, rfl, g0, g1, g2, g3, hv⟩ := kid_0 hks k0 (x := x) rfl
  have hC := fun (u : World) (hu : Kept (w.alloc (.cells #[.int .i64 17, .string s, .int .i64 n, .slice (some ⟨b, off, none⟩) 1 cap] 29)) u) => H x hx0 hx2 hxb hok hst u base _ (hv.kept hu)
  have hE4 := wT_small hok hx2 hxb
  have HW : Hid (wT (.mk 17 s n [x]) = (((⟨#[40]⟩ ++ wT x) ++ ⟨#[41, 46]⟩) ++ s)) := by rw [Hid, wT]; rfl
  obtain ⟨E, hE⟩ : ∃ E, wT x = E := ⟨_, rfl⟩
  rw [hE] at hE4 HW
  simp only [hE] at hC
  obtain ⟨xo, hxo⟩ : ∃ o, x.op = o := ⟨_, rfl⟩
  obtain ⟨xs, hxs'⟩ : ∃ o, x.s = o := ⟨_, rfl⟩
  obtain ⟨xn, hxn⟩ : ∃ o, x.n = o := ⟨_, rfl⟩
  obtain ⟨xl, hxl⟩ : ∃ o, x.kids.length = o := ⟨_, rfl⟩
  simp only [hxo, hxs', hxn, hxl] at hC
  rw [hxo] at g0
  rw [hxs'] at g1
  rw [hxn] at g2
  rw [hxl] at g3
  have p0 : ¬ 9223372036854775807 < 1 + E.size := by omega
  have p1 : ¬ 9223372036854775807 < 1 + E.size + 2 := by omega
  have p2 : ¬ 9223372036854775807 < 1 + E.size + 2 + s.size := by omega
  have _hs := hsb
  clear _hs hks hml hv hE hxo hxs' hxn hxl hok hst hx0 hx2 hxb hE4 hsb H
  go_enter Tryz.func31, Tryz.ntmps31
  go_wp2_with fail
  have kd : Kept (w.alloc (.cells #[.int .i64 17, .string s, .int .i64 n, .slice (some ⟨b, off, none⟩) 1 cap] 29)) (w.alloc (.cells #[.int .i64 17, .string s, .int .i64 n, .slice (some ⟨b, off, none⟩) 1 cap] 29)).drew := (Below.refl _ _).drew
  have X1 : ∀ u, Kept (w.alloc (.cells #[.int .i64 17, .string s, .int .i64 n, .slice (some ⟨b, off, none⟩) 1 cap] 29)).drew u → u.cell? ⟨w.heap.size, 1, none⟩ = some (.string s) := fun u hu => (b0.kept (kd.trans hu)).cell 1
  have X3 : ∀ u, Kept (w.alloc (.cells #[.int .i64 17, .string s, .int .i64 n, .slice (some ⟨b, off, none⟩) 1 cap] 29)).drew u → u.cell? ⟨w.heap.size, 3, none⟩ = some (.slice (some ⟨b, off, none⟩) 1 cap) := fun u hu => (b0.kept (kd.trans hu)).cell 3
  have Y0 : ∀ u, Kept (w.alloc (.cells #[.int .i64 17, .string s, .int .i64 n, .slice (some ⟨b, off, none⟩) 1 cap] 29)).drew u → u.cell? ⟨b, off, none⟩ = some (.int .i64 xo) := fun u hu => kept_cell (kd.trans hu) g0
  have Y1 : ∀ u, Kept (w.alloc (.cells #[.int .i64 17, .string s, .int .i64 n, .slice (some ⟨b, off, none⟩) 1 cap] 29)).drew u → u.cell? ⟨b, off + 1, none⟩ = some (.string xs) := fun u hu => kept_cell (kd.trans hu) g1
  have Y2 : ∀ u, Kept (w.alloc (.cells #[.int .i64 17, .string s, .int .i64 n, .slice (some ⟨b, off, none⟩) 1 cap] 29)).drew u → u.cell? ⟨b, off + 2, none⟩ = some (.int .i64 xn) := fun u hu => kept_cell (kd.trans hu) g2
  have Y3 : ∀ u, Kept (w.alloc (.cells #[.int .i64 17, .string s, .int .i64 n, .slice (some ⟨b, off, none⟩) 1 cap] 29)).drew u → u.cell? ⟨b, off + 3, none⟩ = some (.slice a2 xl cq) := fun u hu => kept_cell (kd.trans hu) g3
  have hC2 : Hid (∀ u, Kept (w.alloc (.cells #[.int .i64 17, .string s, .int .i64 n, .slice (some ⟨b, off, none⟩) 1 cap] 29)).drew u → Calls Tryz.prog 31 #[.agg #[.int .i64 xo, .string xs, .int .i64 xn, .slice a2 xl cq]] u fun e w' => e = .returned (.string E) ∧ Kept u w') := fun u hu => hC u (kd.trans hu)
  refine wp_region_seqL (by kernel_rfl) (by kernel_rfl) ?_
  repeat (first
    | (refine SeqL.skip (by rfl) ?_; simp only [Act.put, List.setIfInBounds_toArray, List.set_cons_zero, List.set_cons_succ])
    | (refine SeqL.pure ?_ (by rfl) ?_ ?_; rotate_left; (focus (intro u hu; have x1' := X1 u hu; have x3' := X3 u hu; have y0' := Y0 u hu; have y1' := Y1 u hu; have y2' := Y2 u hu; have y3' := Y3 u hu; go_simp; first | done | exact rfl)); simp only [Act.put, List.setIfInBounds_toArray, List.set_cons_zero, List.set_cons_succ])
    | (refine SeqL.call _ _ _ (by rfl) ?_ hC2.out ?_; (focus (intro u; go_simp; done)); simp only [Act.put, List.setIfInBounds_toArray, List.set_cons_zero, List.set_cons_succ]))
  refine SeqL.nil ?_
  intro w2 hk2
  go_simp
  go_wp2_with fail
  go_ret
  exact ⟨by rw [HW.out]; rfl, k0.trans (kd.trans hk2)⟩
set_option maxHeartbeats 8000000 in
set_option maxRecDepth 100000 in
theorem ex13_25 (m : Nat) (H : TxEx m) (s : ByteArray) (n : Int) (ks : List Nd) (ht : 1 + sizesN ks ≤ m + 1) (h200 : 1 + sizesN ks ≤ 200) (hb : s.size + (ks.length + bulksN ks) ≤ 1048576) (hall : ∀ k ∈ ks, okT k = true) (hst : ∀ k ∈ ks, st k.op = 4) (w : World) (base : Nat) (v : Value) (hv : NdV w base (.mk 25 s n ks) v) :
    Calls Tryz.prog 31 #[v] w fun e w' => e = .returned (.string (wT (.mk 25 s n ks))) ∧ Kept w w' := by
  have hvN := hv
  rw [NdV] at hv
  obtain ⟨ao, cap, rfl, hml, hks⟩ := hv
  have k0 : Kept w (w.alloc (.cells #[.int .i64 25, .string s, .int .i64 n, .slice ao ks.length cap] 29)) := Kept.alloc (Below.refl _ _) _
  have hC := l13List_ok m H 25 n s ks 0 (Nat.zero_le _) ht h200 hb hall (fun k hk => .inr (hst k hk)) _ base _ (hvN.kept k0)
  have h1 := comma_size (ks.map wT)
  have h2 := sum_map hall
  have hll := len_sizes ks
  rw [List.length_map] at h1
  rw [List.drop_zero] at hC
  have HW : Hid (wT (.mk 25 s n ks) = (⟨#[123]⟩ ++ commaT (ks.map wT)) ++ ⟨#[125]⟩) := by rw [Hid, wT, wTs_map]; rfl
  obtain ⟨D, hD⟩ : ∃ D, commaT (ks.map wT) = D := ⟨_, rfl⟩
  rw [hD] at HW hC h1
  have p0 : ¬ 9223372036854775807 < 1 + D.size := by omega
  have p1 : ¬ 9223372036854775807 < 1 + D.size + 1 := by omega
  clear hks hml hD h1 h2 hll ht h200 hb hall hst hvN H
  go_enter Tryz.func31, Tryz.ntmps31
  go_wp2_with (go_at_call 50; refine hC.mono ?_; rintro e w1 ⟨rfl, hk1⟩)
  go_ret
  exact ⟨by rw [HW.out]; rfl, k0.trans hk1⟩
set_option maxHeartbeats 8000000 in
set_option maxRecDepth 100000 in
theorem ex13_18 (m : Nat) (H : TxEx m) (s : ByteArray) (n : Int) (x : Nd) (ks : List Nd) (hks0 : ks[0]? = some x) (ht : 1 + sizesN ks ≤ m + 1) (h200 : 1 + sizesN ks ≤ 200) (hb : s.size + (ks.length + bulksN ks) ≤ 1048576) (hall : ∀ k ∈ ks, okT k = true) (hst : ∀ k ∈ ks, st k.op = 3) (w : World) (base : Nat) (v : Value) (hv : NdV w base (.mk 18 s n ks) v) :
    Calls Tryz.prog 31 #[v] w fun e w' => e = .returned (.string (wT (.mk 18 s n ks))) ∧ Kept w w' := by
  have hvN := hv
  rw [NdV] at hv
  obtain ⟨ao, cap, rfl, hml, hks⟩ := hv
  have b0 := Cells.new w 29 #[.int .i64 18, .string s, .int .i64 n, .slice ao ks.length cap]
  have k0 : Kept w (w.alloc (.cells #[.int .i64 18, .string s, .int .i64 n, .slice ao ks.length cap] 29)) := Kept.alloc (Below.refl _ _) _
  have hl1 : 1 ≤ ks.length := by have := (List.getElem?_eq_some_iff.1 hks0).1; omega
  have hxm := List.mem_of_getElem? hks0
  have hxs := size_mem hks0
  have hxb := bulk_mem hks0
  have kd : Kept (w.alloc (.cells #[.int .i64 18, .string s, .int .i64 n, .slice ao ks.length cap] 29)) (w.alloc (.cells #[.int .i64 18, .string s, .int .i64 n, .slice ao ks.length cap] 29)).drew := (Below.refl _ _).drew
  obtain ⟨b, off, a2, cq, rfl, g0, g1, g2, g3, hvx⟩ := kid_0 hks k0 hks0
  have hC2 : Hid (∀ u, Kept (w.alloc (.cells #[.int .i64 18, .string s, .int .i64 n, .slice (some ⟨b, off, none⟩) ks.length cap] 29)).drew u → Calls Tryz.prog 31 #[.agg #[.int .i64 x.op, .string x.s, .int .i64 x.n, .slice a2 x.kids.length cq]] u fun e w' => e = .returned (.string (wT x)) ∧ Kept u w') := fun u hu => H x (by omega) (by omega) (by omega) (hall x hxm) (hst x hxm) u base _ (hvx.kept (kd.trans hu))
  have hC3 : Hid (∀ u, Kept (w.alloc (.cells #[.int .i64 18, .string s, .int .i64 n, .slice (some ⟨b, off, none⟩) ks.length cap] 29)).drew u → Calls Tryz.prog 50 #[.agg #[.int .i64 18, .string s, .int .i64 n, .slice (some ⟨b, off, none⟩) ks.length cap], .int .i64 1] u fun e w' => e = .returned (.string (commaT ((ks.drop 1).map wT))) ∧ Kept u w') := fun u hu => l13List_ok m H 18 n s ks 1 hl1 ht h200 hb hall (fun k hk => .inl (hst k hk)) u base _ ((hvN.kept k0).kept (kd.trans hu))
  have h1 := comma_size ((ks.drop 1).map wT)
  have h2 := sum_map hall
  have h3 := drop_sum (ks.map wT)
  have h4 : (ks.map wT).getD 0 ⟨#[]⟩ = wT x := by
    rw [List.getD_eq_getElem?_getD, List.getElem?_map, hks0]; rfl
  have hll := len_sizes ks
  rw [List.length_map, List.length_drop] at h1
  rw [h4, ← List.map_drop] at h3
  have HW : Hid (wT (.mk 18 s n ks) = (((⟨#[40]⟩ ++ wT x) ++ ⟨#[41, 40]⟩) ++ commaT ((ks.drop 1).map wT)) ++ ⟨#[41]⟩) := by
    rw [Hid, wT, wTs_map, ← h4, List.map_drop]; rfl
  obtain ⟨D, hD⟩ : ∃ D, commaT ((ks.drop 1).map wT) = D := ⟨_, rfl⟩
  obtain ⟨E, hE⟩ : ∃ E, wT x = E := ⟨_, rfl⟩
  rw [hE, hD] at HW
  rw [hD] at hC3 h1
  rw [hE] at hC2 h3
  obtain ⟨xo, hxo⟩ : ∃ o, x.op = o := ⟨_, rfl⟩
  obtain ⟨xs, hxs'⟩ : ∃ o, x.s = o := ⟨_, rfl⟩
  obtain ⟨xn, hxn⟩ : ∃ o, x.n = o := ⟨_, rfl⟩
  obtain ⟨xl, hxl⟩ : ∃ o, x.kids.length = o := ⟨_, rfl⟩
  rw [hxo, hxs', hxn, hxl] at hC2
  rw [hxo] at g0
  rw [hxs'] at g1
  rw [hxn] at g2
  rw [hxl] at g3
  have p0 : ¬ 9223372036854775807 < 1 + E.size := by omega
  have p1 : ¬ 9223372036854775807 < 1 + E.size + 2 := by omega
  have p2 : ¬ 9223372036854775807 < 1 + E.size + 2 + D.size := by omega
  have p3 : ¬ 9223372036854775807 < 1 + E.size + 2 + D.size + 1 := by omega
  have X0 : ∀ u, Kept (w.alloc (.cells #[.int .i64 18, .string s, .int .i64 n, .slice (some ⟨b, off, none⟩) ks.length cap] 29)).drew u → u.cell? ⟨w.heap.size, 0, none⟩ = some (.int .i64 18) := fun u hu => (b0.kept (kd.trans hu)).cell 0
  have X1 : ∀ u, Kept (w.alloc (.cells #[.int .i64 18, .string s, .int .i64 n, .slice (some ⟨b, off, none⟩) ks.length cap] 29)).drew u → u.cell? ⟨w.heap.size, 1, none⟩ = some (.string s) := fun u hu => (b0.kept (kd.trans hu)).cell 1
  have X2 : ∀ u, Kept (w.alloc (.cells #[.int .i64 18, .string s, .int .i64 n, .slice (some ⟨b, off, none⟩) ks.length cap] 29)).drew u → u.cell? ⟨w.heap.size, 2, none⟩ = some (.int .i64 n) := fun u hu => (b0.kept (kd.trans hu)).cell 2
  have X3 : ∀ u, Kept (w.alloc (.cells #[.int .i64 18, .string s, .int .i64 n, .slice (some ⟨b, off, none⟩) ks.length cap] 29)).drew u → u.cell? ⟨w.heap.size, 3, none⟩ = some (.slice (some ⟨b, off, none⟩) ks.length cap) := fun u hu => (b0.kept (kd.trans hu)).cell 3
  have Y0 : ∀ u, Kept (w.alloc (.cells #[.int .i64 18, .string s, .int .i64 n, .slice (some ⟨b, off, none⟩) ks.length cap] 29)).drew u → u.cell? ⟨b, off, none⟩ = some (.int .i64 xo) := fun u hu => kept_cell (kd.trans hu) g0
  have Y1 : ∀ u, Kept (w.alloc (.cells #[.int .i64 18, .string s, .int .i64 n, .slice (some ⟨b, off, none⟩) ks.length cap] 29)).drew u → u.cell? ⟨b, off + 1, none⟩ = some (.string xs) := fun u hu => kept_cell (kd.trans hu) g1
  have Y2 : ∀ u, Kept (w.alloc (.cells #[.int .i64 18, .string s, .int .i64 n, .slice (some ⟨b, off, none⟩) ks.length cap] 29)).drew u → u.cell? ⟨b, off + 2, none⟩ = some (.int .i64 xn) := fun u hu => kept_cell (kd.trans hu) g2
  have Y3 : ∀ u, Kept (w.alloc (.cells #[.int .i64 18, .string s, .int .i64 n, .slice (some ⟨b, off, none⟩) ks.length cap] 29)).drew u → u.cell? ⟨b, off + 3, none⟩ = some (.slice a2 xl cq) := fun u hu => kept_cell (kd.trans hu) g3
  have q0 : 0 < ks.length := by omega
  clear hks hml hD hE h1 h2 h3 h4 hll ht h200 hb hall hst hvN hvx H hxs hxb hxm hks0 hl1 hxo hxs' hxn hxl
  go_enter Tryz.func31, Tryz.ntmps31
  go_wp2_with fail
  refine wp_region_seqL (by kernel_rfl) (by kernel_rfl) ?_
  repeat (first
    | (refine SeqL.skip (by rfl) ?_; simp only [Act.put, List.setIfInBounds_toArray, List.set_cons_zero, List.set_cons_succ])
    | (refine SeqL.pure ?_ (by rfl) ?_ ?_; rotate_left; (focus (intro u hu; have x0' := X0 u hu; have x1' := X1 u hu; have x2' := X2 u hu; have x3' := X3 u hu; have y0' := Y0 u hu; have y1' := Y1 u hu; have y2' := Y2 u hu; have y3' := Y3 u hu; go_simp; first | done | exact rfl)); simp only [Act.put, List.setIfInBounds_toArray, List.set_cons_zero, List.set_cons_succ])
    | (refine SeqL.call _ _ _ (by rfl) ?_ hC2.out ?_; (focus (intro u; go_simp; done)); simp only [Act.put, List.setIfInBounds_toArray, List.set_cons_zero, List.set_cons_succ])
    | (refine SeqL.call _ _ _ (by rfl) ?_ hC3.out ?_; (focus (intro u; go_simp; done)); simp only [Act.put, List.setIfInBounds_toArray, List.set_cons_zero, List.set_cons_succ]))
  refine SeqL.nil ?_
  intro w2 hk2
  go_simp
  go_wp2_with fail
  go_ret
  exact ⟨by rw [HW.out]; rfl, k0.trans (kd.trans hk2)⟩
end Go.Proofs.YtejpjbfmjmfnmaaGreatDoor
namespace Go.Proofs.YtejpjbfmjmfnmaaGreatDoor
open Go.RowKit
set_option linter.unusedSimpArgs false

theorem extract_one (s : ByteArray) (k : Nat) (h : k < s.size) : s.extract k (k + 1) = ⟨#[s[k]]⟩ := by
  apply ByteArray.ext
  rw [ByteArray.data_extract]
  apply Array.ext
  · have : k < s.data.size := h
    simp; omega
  · intro i h1 h2
    have : i = 0 := by simpa using h2
    subst this
    simp
    rfl

/-- The names up to a byte. -/
def namesK (s : ByteArray) (k : Nat) : ByteArray := ⟨(commas (s.data.toList.take k)).toArray⟩
theorem namesK_0 (s : ByteArray) : namesK s 0 = ⟨#[]⟩ := rfl
theorem namesK_all (s : ByteArray) : namesK s s.size = namesT s := by
  rw [namesK, namesT, List.take_of_length_le (by rw [Array.length_toList]; exact Nat.le_refl _)]
theorem namesK_succ (s : ByteArray) (k : Nat) (h : k < s.size) :
    namesK s (k + 1) = ⟨(commas (s.data.toList.take k) ++ (if s[k] = 32 then [44, 32] else [s[k]])).toArray⟩ := by
  have h2 : k < s.data.toList.length := by rw [Array.length_toList]; exact h
  rw [namesK, List.take_succ_eq_append_getElem h2, commas, List.flatMap_append]
  simp only [List.flatMap_cons, List.flatMap_nil, List.append_nil, Array.getElem_toList]
  rfl
theorem namesK_size (s : ByteArray) (k : Nat) : (namesK s k).size ≤ 2 * s.size := by
  have h : namesK s k = namesT ⟨(s.data.toList.take k).toArray⟩ := by rw [namesK, namesT]
  rw [h]
  refine Nat.le_trans (names_size _) ?_
  refine Nat.mul_le_mul_left _ ?_
  show (s.data.toList.take k).toArray.size ≤ s.data.size
  rw [List.size_toArray, ← Array.length_toList (xs := s.data)]
  exact List.length_take_le' _ _
theorem names_blank (s : ByteArray) (k : Nat) (h : k < s.size) (hb : s[k] = 32) :
    (namesK s k ++ ⟨#[44]⟩) ++ s.extract k (k + 1) = namesK s (k + 1) := by
  rw [namesK_succ s k h, if_pos hb, extract_one s k h, hb, namesK]
  apply ByteArray.ext
  simp [ByteArray.data_append]
theorem names_other (s : ByteArray) (k : Nat) (h : k < s.size) (hb : s[k] ≠ 32) :
    namesK s k ++ s.extract k (k + 1) = namesK s (k + 1) := by
  rw [namesK_succ s k h, if_neg hb, extract_one s k h, namesK]
  apply ByteArray.ext
  simp [ByteArray.data_append]

set_option maxHeartbeats 4000000 in
theorem l13Signs_ok (w : World) :
    Calls Tryz.prog 51 #[] w fun e w' => ∃ b, e = .returned (.slice (some ⟨b, 0, none⟩) 5 5) ∧ Kept w w' ∧ w'.cell? ⟨b, 0, none⟩ = some (.string ⟨#[43]⟩) ∧ w'.cell? ⟨b, 1, none⟩ = some (.string ⟨#[45]⟩) ∧ w'.cell? ⟨b, 2, none⟩ = some (.string ⟨#[42]⟩) ∧ w'.cell? ⟨b, 3, none⟩ = some (.string ⟨#[60]⟩) ∧ w'.cell? ⟨b, 4, none⟩ = some (.string ⟨#[61, 61]⟩) := by
  have b0 := Cells.new w 9 #[.string ⟨#[43]⟩, .string ⟨#[45]⟩, .string ⟨#[42]⟩, .string ⟨#[60]⟩, .string ⟨#[61, 61]⟩]
  have k0 : Kept w (w.alloc (.cells #[.string ⟨#[43]⟩, .string ⟨#[45]⟩, .string ⟨#[42]⟩, .string ⟨#[60]⟩, .string ⟨#[61, 61]⟩] 9)) := Kept.alloc (Below.refl _ _) _
  go_enter Tryz.func51, Tryz.ntmps51
  go_wp2_with fail
  go_ret
  exact ⟨_, rfl, k0, b0.cell 0, b0.cell 1, b0.cell 2, b0.cell 3, b0.cell 4⟩
end Go.Proofs.YtejpjbfmjmfnmaaGreatDoor
namespace Go.Proofs.YtejpjbfmjmfnmaaGreatDoor
open Go.RowKit
set_option linter.unusedSimpArgs false

set_option maxHeartbeats 8000000 in
set_option maxRecDepth 100000 in
theorem ex13_27 (m : Nat) (H : TxBk m) (s : ByteArray) (n : Int) (x : Nd) (hx0 : x.size ≤ m) (hx2 : x.size ≤ 200) (hxb : x.bulk ≤ 1048576) (hsb : s.size ≤ 1048576) (hok : okT x = true) (hst : x.op = 1) (w : World) (base : Nat) (v : Value) (hv : NdV w base (.mk 27 s n [x]) v) :
    Calls Tryz.prog 31 #[v] w fun e w' => e = .returned (.string (wT (.mk 27 s n [x]))) ∧ Kept w w' := by
  rw [NdV] at hv
  obtain ⟨ao, cap, rfl, hml, hks⟩ := hv
  simp only [List.length_cons, List.length_nil, Nat.zero_add]
  have b0 := Cells.new w 29 #[.int .i64 27, .string s, .int .i64 n, .slice ao 1 cap]
  have k0 : Kept w (w.alloc (.cells #[.int .i64 27, .string s, .int .i64 n, .slice ao 1 cap] 29)) := Kept.alloc (Below.refl _ _) _
  obtain ⟨b, off, a2, cq, rfl, g0, g1, g2, g3, hv⟩ := kid_0 hks k0 (x := x) rfl
  have hC0 := fun u (hu : Kept _ u) => H x hx0 hx2 hxb hok hst u base _ (hv.kept hu)
  have hE4 := wT_small hok hx2 hxb
  have HW : Hid (wT (.mk 27 s n [x]) = ((⟨#[102, 117, 110, 99, 116, 105, 111, 110, 40]⟩ ++ namesT s) ++ ⟨#[41, 32]⟩) ++ wT x) := by rw [Hid, wT]; rfl
  obtain ⟨E, hE⟩ : ∃ E, wT x = E := ⟨_, rfl⟩
  rw [hE] at hC0 hE4 HW
  obtain ⟨xo, hxo⟩ : ∃ o, x.op = o := ⟨_, rfl⟩
  obtain ⟨xs, hxs'⟩ : ∃ o, x.s = o := ⟨_, rfl⟩
  obtain ⟨xn, hxn⟩ : ∃ o, x.n = o := ⟨_, rfl⟩
  obtain ⟨xl, hxl⟩ : ∃ o, x.kids.length = o := ⟨_, rfl⟩
  rw [hxo, hxs', hxn, hxl] at hC0
  rw [hxo] at g0
  rw [hxs'] at g1
  rw [hxn] at g2
  rw [hxl] at g3
  have hC : Hid _ := hC0
  clear hC0 hks hml hE hok hst hv H hxo hxs' hxn hxl
  go_enter Tryz.func31, Tryz.ntmps31
  go_wp2_with fail
  obtain ⟨W, hW⟩ : ∃ W, w.alloc (.cells #[.int .i64 27, .string s, .int .i64 n, .slice (some ⟨b, off, none⟩) 1 cap] 29) = W := ⟨_, rfl⟩
  rw [hW] at b0 k0 g0 g1 g2 g3 hC
  simp only [hW]
  clear hW
  have hsz : Hid (∀ k, (namesK s k).size ≤ 2 * s.size) := namesK_size s
  go_loopw [3, 4] (fun nv iv wr => ∃ (k : Nat), nv = .string (namesK s k) ∧ iv = .int .i64 k ∧ k ≤ s.size ∧ Hid (Kept W wr)) (fun _ i _ => s.size - (intOf i).toNat)
  case atStart => exact ⟨0, rfl, rfl, Nat.zero_le _, Below.refl _ _⟩
  case round =>
    obtain ⟨k, rfl, rfl, hk, hK⟩ := hrel
    have y0 := b0.kept hK.out
    have c0 := y0.cell 0; have c1 := y0.cell 1; have c2 := y0.cell 2; have c3 := y0.cell 3
    have d0 := kept_cell hK.out g0; have d1 := kept_cell hK.out g1; have d2 := kept_cell hK.out g2; have d3 := kept_cell hK.out g3
    have hz := hsz.out k
    by_cases hlt : k < s.size
    · have q1 : (k : Int) < (s.size : Int) := by omega
      have q5 : (k : Int) ≤ (k : Int) + 1 := by omega
      have q6 : (k : Int) + 1 ≤ (s.size : Int) := by omega
      have e1 := extract_one s k hlt
      have e2 : ByteArray.size ⟨#[s[k]]⟩ = 1 := rfl
      by_cases hb : s[k] = 32
      · have q4 : ((s[k].toNat : Int) == 32) = true := by rw [hb]; rfl
        have HN : Hid (namesK s k ++ ⟨#[44]⟩ ++ ⟨#[32]⟩ = namesK s (k + 1)) := by rw [Hid, ← names_blank s k hlt hb, e1, hb]
        obtain ⟨D, hD⟩ : ∃ D, namesK s k = D := ⟨_, rfl⟩
        rw [hD] at HN hz
        simp only [hD]
        have p0 : ¬ 9223372036854775807 < D.size + 1 := by omega
        have p1 : ¬ 9223372036854775807 < D.size + 1 + 1 := by omega
        go_wp2_with fail
        refine ⟨⟨k + 1, by rw [HN.out], rfl, hlt, hK⟩, ?_⟩
        show s.size - ((k : Int) + 1).toNat < s.size - ((k : Int)).toNat
        omega
      · have q4 : ((s[k].toNat : Int) == 32) = false := by
          rw [beq_eq_false_iff_ne]
          intro h
          exact hb (UInt8.toNat_inj.1 (by show s[k].toNat = 32; omega))
        have HN : Hid (namesK s k ++ ⟨#[s[k]]⟩ = namesK s (k + 1)) := by rw [Hid, ← names_other s k hlt hb, e1]
        obtain ⟨D, hD⟩ : ∃ D, namesK s k = D := ⟨_, rfl⟩
        rw [hD] at HN hz
        simp only [hD]
        have p0 : ¬ 9223372036854775807 < D.size + 1 := by omega
        go_wp2_with fail
        refine ⟨⟨k + 1, by rw [HN.out], rfl, hlt, hK⟩, ?_⟩
        show s.size - ((k : Int) + 1).toNat < s.size - ((k : Int)).toNat
        omega
    · obtain rfl : k = s.size := by omega
      have q1 : ¬ (s.size : Int) < (s.size : Int) := by omega
      rw [namesK_all] at hz
      simp only [namesK_all]
      obtain ⟨D, hD⟩ : ∃ D, namesT s = D := ⟨_, rfl⟩
      rw [hD] at HW hz
      simp only [hD]
      have hC1 := hC.out _ hK.out
      have p0 : ¬ 9223372036854775807 < 9 + D.size := by omega
      have p1 : ¬ 9223372036854775807 < 9 + D.size + 2 := by omega
      have p2 : ¬ 9223372036854775807 < 9 + D.size + 2 + E.size := by omega
      go_wp2_with (go_at_call 32; refine hC1.mono ?_; rintro e w1 ⟨rfl, hk1⟩)
      go_ret
      exact ⟨by rw [HW.out]; rfl, k0.trans (hK.out.trans hk1)⟩
end Go.Proofs.YtejpjbfmjmfnmaaGreatDoor
namespace Go.Proofs.YtejpjbfmjmfnmaaGreatDoor
open Go.RowKit
set_option linter.unusedSimpArgs false

/-- What the operations yield, but for those that speak of the new row of signs. -/
def sgV (B b off cap : Nat) (v1 v2 : Value) (E1 E2 sg : ByteArray) (op k : Int) : Nat → Value
  | 0 => .pointer (some ⟨B, 3, none⟩)
  | 1 => .slice (some ⟨b, off, none⟩) 2 cap
  | 2 => .pointer (some ⟨b, off, none⟩)
  | 3 => v1
  | 4 => .string E1
  | 5 => .string (⟨#[40]⟩ ++ E1)
  | 6 => .string ((⟨#[40]⟩ ++ E1) ++ ⟨#[32]⟩)
  | 8 => .pointer (some ⟨B, 0, none⟩)
  | 9 => .int .i64 op
  | 10 => .int .i64 k
  | 12 => .string sg
  | 13 => .string (((⟨#[40]⟩ ++ E1) ++ ⟨#[32]⟩) ++ sg)
  | 14 => .string ((((⟨#[40]⟩ ++ E1) ++ ⟨#[32]⟩) ++ sg) ++ ⟨#[32]⟩)
  | 15 => .pointer (some ⟨B, 3, none⟩)
  | 16 => .slice (some ⟨b, off, none⟩) 2 cap
  | 17 => .pointer (some ⟨b, off + 4, none⟩)
  | 18 => v2
  | 19 => .string E2
  | 20 => .string (((((⟨#[40]⟩ ++ E1) ++ ⟨#[32]⟩) ++ sg) ++ ⟨#[32]⟩) ++ E2)
  | _ => .string ((((((⟨#[40]⟩ ++ E1) ++ ⟨#[32]⟩) ++ sg) ++ ⟨#[32]⟩) ++ E2) ++ ⟨#[41]⟩)
def sgR (V : Nat → Value) (k : Nat) (sg : ByteArray) (j : Nat) (vs : Nat → Value) (u : World) : Prop :=
  if j = 7 then ∃ g, vs 7 = .slice (some ⟨g, 0, none⟩) 5 5 ∧ u.cell? ⟨g, k, none⟩ = some (.string sg)
  else if j = 11 then ∃ g, vs 11 = .pointer (some ⟨g, k, none⟩) ∧ u.cell? ⟨g, k, none⟩ = some (.string sg)
  else vs j = V j
def sgT (W : World) (V : Nat → Value) (k : Nat) (sg : ByteArray) : Told := ⟨sgR V k sg, fun u => Kept W u⟩
theorem sgT_own {ops : Array Oper} (W : World) (V : Nat → Value) (k : Nat) (sg : ByteArray) : (sgT W V k sg).own ops := by
  intro j vs vs' u h hR
  have e := h j (.inl rfl)
  show sgR V k sg j vs' u
  have hR : sgR V k sg j vs u := hR
  unfold sgR at hR ⊢
  by_cases h7 : j = 7
  · subst h7
    simp only [if_true] at hR ⊢
    rw [← e]
    exact hR
  · by_cases h11 : j = 11
    · subst h11
      simp only [if_true, show ((11 : Nat) = 7) = False by simp, if_false] at hR ⊢
      rw [← e]
      exact hR
    · simp only [h7, h11, if_false] at hR ⊢
      rw [← e]
      exact hR
theorem sgR_kept {u u' : World} {V : Nat → Value} {k : Nat} {sg : ByteArray} (hk : Kept u u') (j : Nat) (vs : Nat → Value) (h : sgR V k sg j vs u) : sgR V k sg j vs u' := by
  unfold sgR at h ⊢
  by_cases h7 : j = 7
  · subst h7
    simp only [if_true] at h ⊢
    obtain ⟨g, e, hc⟩ := h
    exact ⟨g, e, kept_cell hk hc⟩
  · by_cases h11 : j = 11
    · subst h11
      simp only [if_true, show ((11 : Nat) = 7) = False by simp, if_false] at h ⊢
      obtain ⟨g, e, hc⟩ := h
      exact ⟨g, e, kept_cell hk hc⟩
    · simp only [h7, h11, if_false] at h ⊢
      exact h
theorem kid_1 {w W : World} {base : Nat} {ao : Option Addr} {ks : List Nd} {x : Nd} (h : ks = [] ∨ ∃ b off, ao = some ⟨b, off, none⟩ ∧ base ≤ b ∧ NdsV w base b off ks) (hk : Kept w W) (hx : ks[1]? = some x) :
    ∃ b off a2 cq, ao = some ⟨b, off, none⟩ ∧ W.cell? ⟨b, off + 4, none⟩ = some (.int .i64 x.op) ∧ W.cell? ⟨b, off + 5, none⟩ = some (.string x.s) ∧ W.cell? ⟨b, off + 6, none⟩ = some (.int .i64 x.n) ∧ W.cell? ⟨b, off + 7, none⟩ = some (.slice a2 x.kids.length cq) ∧ NdV W base x (.agg #[.int .i64 x.op, .string x.s, .int .i64 x.n, .slice a2 x.kids.length cq]) := by
  obtain ⟨b, off, a2, cq, e, g0, g1, g2, g3, hv⟩ := kid_at h hk hx
  exact ⟨b, off, a2, cq, e, by simpa using g0, by simpa using g1, by simpa using g2, by simpa using g3, hv⟩
set_option maxHeartbeats 16000000 in
set_option maxRecDepth 100000 in
theorem ex13_19 (m : Nat) (H : TxEx m) (s : ByteArray) (n : Int) (x y : Nd) (hx0 : x.size ≤ m) (hx2 : x.size ≤ 200) (hxb : x.bulk ≤ 1048576) (hy0 : y.size ≤ m) (hy2 : y.size ≤ 200) (hyb : y.bulk ≤ 1048576) (hox : okT x = true) (hoy : okT y = true) (hsx : st x.op = 3) (hsy : st y.op = 3) (w : World) (base : Nat) (v : Value) (hv : NdV w base (.mk 19 s n [x, y]) v) :
    Calls Tryz.prog 31 #[v] w fun e w' => e = .returned (.string (wT (.mk 19 s n [x, y]))) ∧ Kept w w' := by
  rw [NdV] at hv
  obtain ⟨ao, cap, rfl, hml, hks⟩ := hv
  simp only [List.length_cons, List.length_nil, Nat.zero_add, Nat.reduceAdd]
  have b0 := Cells.new w 29 #[.int .i64 19, .string s, .int .i64 n, .slice ao 2 cap]
  have k0 : Kept w (w.alloc (.cells #[.int .i64 19, .string s, .int .i64 n, .slice ao 2 cap] 29)) := Kept.alloc (Below.refl _ _) _
  obtain ⟨b, off, a2, cq, rfl, g0, g1, g2, g3, hvx⟩ := kid_0 hks k0 (x := x) rfl
  obtain ⟨b', off', a3, cr, eb, h0, h1, h2, h3, hvy⟩ := kid_1 hks k0 (x := y) rfl
  simp at eb
  obtain ⟨rfl, rfl⟩ := eb
  have hE1 := wT_small hox hx2 hxb
  have hE2 := wT_small hoy hy2 hyb
  have HW : Hid (wT (.mk 19 s n [x, y]) = (((((⟨#[40]⟩ ++ wT x) ++ ⟨#[32]⟩) ++ ⟨#[43]⟩) ++ ⟨#[32]⟩) ++ wT y) ++ ⟨#[41]⟩) := by rw [Hid, wT]; rfl
  have hC1 := fun u (hu : Kept (w.alloc (.cells #[.int .i64 19, .string s, .int .i64 n, .slice (some ⟨b, off, none⟩) 2 cap] 29)) u) => H x hx0 hx2 hxb hox hsx u base _ (hvx.kept hu)
  have hC2 := fun u (hu : Kept (w.alloc (.cells #[.int .i64 19, .string s, .int .i64 n, .slice (some ⟨b, off, none⟩) 2 cap] 29)) u) => H y hy0 hy2 hyb hoy hsy u base _ (hvy.kept hu)
  obtain ⟨E1, hE⟩ : ∃ E, wT x = E := ⟨_, rfl⟩
  rw [hE] at hC1 hE1 HW
  obtain ⟨E2, hE'⟩ : ∃ E, wT y = E := ⟨_, rfl⟩
  rw [hE'] at hC2 hE2 HW
  obtain ⟨xo, exo⟩ : ∃ o, x.op = o := ⟨_, rfl⟩
  obtain ⟨xs, exs⟩ : ∃ o, x.s = o := ⟨_, rfl⟩
  obtain ⟨xn, exn⟩ : ∃ o, x.n = o := ⟨_, rfl⟩
  obtain ⟨xl, exl⟩ : ∃ o, x.kids.length = o := ⟨_, rfl⟩
  rw [exo, exs, exn, exl] at hC1
  rw [exo] at g0
  rw [exs] at g1
  rw [exn] at g2
  rw [exl] at g3
  obtain ⟨yo, eyo⟩ : ∃ o, y.op = o := ⟨_, rfl⟩
  obtain ⟨ys, eys⟩ : ∃ o, y.s = o := ⟨_, rfl⟩
  obtain ⟨yn, eyn⟩ : ∃ o, y.n = o := ⟨_, rfl⟩
  obtain ⟨yl, eyl⟩ : ∃ o, y.kids.length = o := ⟨_, rfl⟩
  rw [eyo, eys, eyn, eyl] at hC2
  rw [eyo] at h0
  rw [eys] at h1
  rw [eyn] at h2
  rw [eyl] at h3
  have HC1 : Hid _ := hC1
  have HC2 : Hid _ := hC2
  clear hC1 hC2 hks hml hE hE' hox hoy hsx hsy hvx hvy H exo exs exn exl eyo eys eyn eyl hx0 hx2 hxb hy0 hy2 hyb
  go_enter Tryz.func31, Tryz.ntmps31
  go_wp2_with fail
  obtain ⟨W, hW⟩ : ∃ W, w.alloc (.cells #[.int .i64 19, .string s, .int .i64 n, .slice (some ⟨b, off, none⟩) 2 cap] 29) = W := ⟨_, rfl⟩
  rw [hW] at b0 k0 g0 g1 g2 g3 h0 h1 h2 h3 HC1 HC2
  simp only [hW]
  clear hW
  have kd : Kept W W.drew := (Below.refl _ _).drew
  have HS : Hid (∀ u, Kept W.drew u → (u.cell? ⟨w.heap.size, 0, none⟩ = some (.int .i64 19) ∧ u.cell? ⟨w.heap.size, 3, none⟩ = some (.slice (some ⟨b, off, none⟩) 2 cap)) ∧ (u.cell? ⟨b, off, none⟩ = some (.int .i64 xo) ∧ u.cell? ⟨b, off + 1, none⟩ = some (.string xs) ∧ u.cell? ⟨b, off + 2, none⟩ = some (.int .i64 xn) ∧ u.cell? ⟨b, off + 3, none⟩ = some (.slice a2 xl cq)) ∧ (u.cell? ⟨b, off + 4, none⟩ = some (.int .i64 yo) ∧ u.cell? ⟨b, off + 4 + 1, none⟩ = some (.string ys) ∧ u.cell? ⟨b, off + 4 + 2, none⟩ = some (.int .i64 yn) ∧ u.cell? ⟨b, off + 4 + 3, none⟩ = some (.slice a3 yl cr))) := fun u hu => ⟨⟨(b0.kept (kd.trans hu)).cell 0, (b0.kept (kd.trans hu)).cell 3⟩, ⟨kept_cell (kd.trans hu) g0, kept_cell (kd.trans hu) g1, kept_cell (kd.trans hu) g2, kept_cell (kd.trans hu) g3⟩, kept_cell (kd.trans hu) h0, kept_cell (kd.trans hu) h1, kept_cell (kd.trans hu) h2, kept_cell (kd.trans hu) h3⟩
  have p0 : ¬ 9223372036854775807 < 1 + E1.size := by omega
  have p1 : ¬ 9223372036854775807 < 1 + E1.size + 1 := by omega
  have p2 : ¬ 9223372036854775807 < 1 + E1.size + 1 + 1 := by omega
  have p3 : ¬ 9223372036854775807 < 1 + E1.size + 1 + 1 + 1 := by omega
  have p4 : ¬ 9223372036854775807 < 1 + E1.size + 1 + 1 + 1 + E2.size := by omega
  have p5 : ¬ 9223372036854775807 < 1 + E1.size + 1 + 1 + 1 + E2.size + 1 := by omega
  obtain ⟨V, hV⟩ : ∃ V, sgV w.heap.size b off cap (.agg #[.int .i64 xo, .string xs, .int .i64 xn, .slice a2 xl cq]) (.agg #[.int .i64 yo, .string ys, .int .i64 yn, .slice a3 yl cr]) E1 E2 ⟨#[43]⟩ 19 0 = V := ⟨_, rfl⟩
  refine wp_region_told 22 (sgT W.drew V 0 ⟨#[43]⟩) (fun _ _ => false) (by kernel_rfl) (by kernel_rfl) (by decide) (by kernel_rfl) (by kernel_rfl) (sgT_own _ _ _ _) (Below.refl _ _) ?_ ?_
  · intro i hi vs
    rcases (show i = 0 ∨ i = 1 ∨ i = 2 ∨ i = 3 ∨ i = 4 ∨ i = 5 ∨ i = 6 ∨ i = 7 ∨ i = 8 ∨ i = 9 ∨ i = 10 ∨ i = 11 ∨ i = 12 ∨ i = 13 ∨ i = 14 ∨ i = 15 ∨ i = 16 ∨ i = 17 ∨ i = 18 ∨ i = 19 ∨ i = 20 ∨ i = 21 by omega) with rfl | rfl | rfl | rfl | rfl | rfl | rfl | rfl | rfl | rfl | rfl | rfl | rfl | rfl | rfl | rfl | rfl | rfl | rfl | rfl | rfl | rfl
    · refine ⟨_, rfl, fun u hu hd => .inl ⟨V 0, u, ?_, hu, by simp [sgT, sgR, vsX], (fun j _ _ _ h => h)⟩⟩
      obtain ⟨⟨c0, c3⟩, ⟨d0, d1, d2, d3⟩, f0, f1, f2, f3⟩ := HS.out u hu
      rw [← hV]
      simp only [sgV]
      simp only [frR, dstAt, List.getElem?_toArray, List.getElem?_cons_zero, List.getElem?_cons_succ, Option.bind_some, Act.put, List.setIfInBounds_toArray, List.set_cons_zero, List.set_cons_succ]; go_simp; first | done | exact rfl
    · refine ⟨_, rfl, fun u hu hd => .inl ⟨V 1, u, ?_, hu, by simp [sgT, sgR, vsX], (fun j _ _ _ h => h)⟩⟩
      have e0 : vs 0 = V 0 := hd 0 (by kernel_rfl)
      rw [← hV] at e0
      simp only [sgV] at e0
      obtain ⟨⟨c0, c3⟩, ⟨d0, d1, d2, d3⟩, f0, f1, f2, f3⟩ := HS.out u hu
      rw [← hV]
      simp only [sgV]
      simp only [frR, dstAt, List.getElem?_toArray, List.getElem?_cons_zero, List.getElem?_cons_succ, Option.bind_some, Act.put, List.setIfInBounds_toArray, List.set_cons_zero, List.set_cons_succ]; simp only [e0]; go_simp; first | done | exact rfl
    · refine ⟨_, rfl, fun u hu hd => .inl ⟨V 2, u, ?_, hu, by simp [sgT, sgR, vsX], (fun j _ _ _ h => h)⟩⟩
      have e1 : vs 1 = V 1 := hd 1 (by kernel_rfl)
      rw [← hV] at e1
      simp only [sgV] at e1
      obtain ⟨⟨c0, c3⟩, ⟨d0, d1, d2, d3⟩, f0, f1, f2, f3⟩ := HS.out u hu
      rw [← hV]
      simp only [sgV]
      simp only [frR, dstAt, List.getElem?_toArray, List.getElem?_cons_zero, List.getElem?_cons_succ, Option.bind_some, Act.put, List.setIfInBounds_toArray, List.set_cons_zero, List.set_cons_succ]; simp only [e1]; go_simp; first | done | exact rfl
    · refine ⟨_, rfl, fun u hu hd => .inl ⟨V 3, u, ?_, hu, by simp [sgT, sgR, vsX], (fun j _ _ _ h => h)⟩⟩
      have e2 : vs 2 = V 2 := hd 2 (by kernel_rfl)
      rw [← hV] at e2
      simp only [sgV] at e2
      obtain ⟨⟨c0, c3⟩, ⟨d0, d1, d2, d3⟩, f0, f1, f2, f3⟩ := HS.out u hu
      rw [← hV]
      simp only [sgV]
      simp only [frR, dstAt, List.getElem?_toArray, List.getElem?_cons_zero, List.getElem?_cons_succ, Option.bind_some, Act.put, List.setIfInBounds_toArray, List.set_cons_zero, List.set_cons_succ]; simp only [e2]; go_simp; first | done | exact rfl
    · refine ⟨_, rfl, fun u hu hd => .inr (.inl ⟨31, #[V 3], ?_, ?_⟩)⟩
      · have e3 : vs 3 = V 3 := hd 3 (by kernel_rfl)
        simp only [frR, dstAt, List.getElem?_toArray, List.getElem?_cons_zero, List.getElem?_cons_succ, Option.bind_some, Act.put, List.setIfInBounds_toArray, List.set_cons_zero, List.set_cons_succ]; simp only [e3]; go_simp; first | done | exact rfl
      · rw [← hV]
        refine (HC1.out u (kd.trans hu)).mono ?_
        rintro e w2 ⟨rfl, hk2⟩
        exact ⟨_, rfl, hu.trans hk2, by simp [sgT, sgR, sgV, vsX], (fun j _ _ _ h => sgR_kept hk2 j vs h)⟩
    · refine ⟨_, rfl, fun u hu hd => .inl ⟨V 5, u, ?_, hu, by simp [sgT, sgR, vsX], (fun j _ _ _ h => h)⟩⟩
      have e4 : vs 4 = V 4 := hd 4 (by kernel_rfl)
      rw [← hV] at e4
      simp only [sgV] at e4
      obtain ⟨⟨c0, c3⟩, ⟨d0, d1, d2, d3⟩, f0, f1, f2, f3⟩ := HS.out u hu
      rw [← hV]
      simp only [sgV]
      simp only [frR, dstAt, List.getElem?_toArray, List.getElem?_cons_zero, List.getElem?_cons_succ, Option.bind_some, Act.put, List.setIfInBounds_toArray, List.set_cons_zero, List.set_cons_succ]; simp only [e4]; go_simp; first | done | exact rfl
    · refine ⟨_, rfl, fun u hu hd => .inl ⟨V 6, u, ?_, hu, by simp [sgT, sgR, vsX], (fun j _ _ _ h => h)⟩⟩
      have e5 : vs 5 = V 5 := hd 5 (by kernel_rfl)
      rw [← hV] at e5
      simp only [sgV] at e5
      obtain ⟨⟨c0, c3⟩, ⟨d0, d1, d2, d3⟩, f0, f1, f2, f3⟩ := HS.out u hu
      rw [← hV]
      simp only [sgV]
      simp only [frR, dstAt, List.getElem?_toArray, List.getElem?_cons_zero, List.getElem?_cons_succ, Option.bind_some, Act.put, List.setIfInBounds_toArray, List.set_cons_zero, List.set_cons_succ]; simp only [e5]; go_simp; first | done | exact rfl
    · refine ⟨_, rfl, fun u hu hd => .inr (.inl ⟨51, #[], ?_, ?_⟩)⟩
      · simp only [frR, dstAt, List.getElem?_toArray, List.getElem?_cons_zero, List.getElem?_cons_succ, Option.bind_some, Act.put, List.setIfInBounds_toArray, List.set_cons_zero, List.set_cons_succ]; go_simp; first | done | exact rfl
      · refine (l13Signs_ok u).mono ?_
        rintro e w2 ⟨g, rfl, hk2, s0, s1, s2, s3, s4⟩
        exact ⟨_, rfl, hu.trans hk2, ⟨g, by simp [vsX], s0⟩, (fun j _ _ _ h => sgR_kept hk2 j vs h)⟩
    · refine ⟨_, rfl, fun u hu hd => .inl ⟨V 8, u, ?_, hu, by simp [sgT, sgR, vsX], (fun j _ _ _ h => h)⟩⟩
      obtain ⟨⟨c0, c3⟩, ⟨d0, d1, d2, d3⟩, f0, f1, f2, f3⟩ := HS.out u hu
      rw [← hV]
      simp only [sgV]
      simp only [frR, dstAt, List.getElem?_toArray, List.getElem?_cons_zero, List.getElem?_cons_succ, Option.bind_some, Act.put, List.setIfInBounds_toArray, List.set_cons_zero, List.set_cons_succ]; go_simp; first | done | exact rfl
    · refine ⟨_, rfl, fun u hu hd => .inl ⟨V 9, u, ?_, hu, by simp [sgT, sgR, vsX], (fun j _ _ _ h => h)⟩⟩
      have e8 : vs 8 = V 8 := hd 8 (by kernel_rfl)
      rw [← hV] at e8
      simp only [sgV] at e8
      obtain ⟨⟨c0, c3⟩, ⟨d0, d1, d2, d3⟩, f0, f1, f2, f3⟩ := HS.out u hu
      rw [← hV]
      simp only [sgV]
      simp only [frR, dstAt, List.getElem?_toArray, List.getElem?_cons_zero, List.getElem?_cons_succ, Option.bind_some, Act.put, List.setIfInBounds_toArray, List.set_cons_zero, List.set_cons_succ]; simp only [e8]; go_simp; first | done | exact rfl
    · refine ⟨_, rfl, fun u hu hd => .inl ⟨V 10, u, ?_, hu, by simp [sgT, sgR, vsX], (fun j _ _ _ h => h)⟩⟩
      have e9 : vs 9 = V 9 := hd 9 (by kernel_rfl)
      rw [← hV] at e9
      simp only [sgV] at e9
      obtain ⟨⟨c0, c3⟩, ⟨d0, d1, d2, d3⟩, f0, f1, f2, f3⟩ := HS.out u hu
      rw [← hV]
      simp only [sgV]
      simp only [frR, dstAt, List.getElem?_toArray, List.getElem?_cons_zero, List.getElem?_cons_succ, Option.bind_some, Act.put, List.setIfInBounds_toArray, List.set_cons_zero, List.set_cons_succ]; simp only [e9]; go_simp; first | done | exact rfl
    · refine ⟨_, rfl, fun u hu hd => ?_⟩
      obtain ⟨g, e7, hc⟩ : ∃ g, vs 7 = .slice (some ⟨g, 0, none⟩) 5 5 ∧ u.cell? ⟨g, 0, none⟩ = some (.string ⟨#[43]⟩) := hd 7 (by kernel_rfl)
      have e10 : vs 10 = V 10 := hd 10 (by kernel_rfl)
      have e10' : vs 10 = .int .i64 0 := by rw [e10, ← hV]; rfl
      refine .inl ⟨.pointer (some ⟨g, 0, none⟩), u, ?_, hu, ⟨g, by simp [vsX], hc⟩, (fun j _ _ _ h => h)⟩
      simp only [frR, dstAt, List.getElem?_toArray, List.getElem?_cons_zero, List.getElem?_cons_succ, Option.bind_some, Act.put, List.setIfInBounds_toArray, List.set_cons_zero, List.set_cons_succ]; simp only [e7, e10']; go_simp; first | done | exact rfl
    · refine ⟨_, rfl, fun u hu hd => ?_⟩
      obtain ⟨g, e11, hc⟩ : ∃ g, vs 11 = .pointer (some ⟨g, 0, none⟩) ∧ u.cell? ⟨g, 0, none⟩ = some (.string ⟨#[43]⟩) := hd 11 (by kernel_rfl)
      refine .inl ⟨.string ⟨#[43]⟩, u, ?_, hu, by rw [← hV]; simp [sgT, sgR, sgV, vsX], (fun j _ _ _ h => h)⟩
      simp only [frR, dstAt, List.getElem?_toArray, List.getElem?_cons_zero, List.getElem?_cons_succ, Option.bind_some, Act.put, List.setIfInBounds_toArray, List.set_cons_zero, List.set_cons_succ]; simp only [e11]; go_simp; first | done | exact rfl
    · refine ⟨_, rfl, fun u hu hd => .inl ⟨V 13, u, ?_, hu, by simp [sgT, sgR, vsX], (fun j _ _ _ h => h)⟩⟩
      have e6 : vs 6 = V 6 := hd 6 (by kernel_rfl)
      rw [← hV] at e6
      simp only [sgV] at e6
      have e12 : vs 12 = V 12 := hd 12 (by kernel_rfl)
      rw [← hV] at e12
      simp only [sgV] at e12
      obtain ⟨⟨c0, c3⟩, ⟨d0, d1, d2, d3⟩, f0, f1, f2, f3⟩ := HS.out u hu
      rw [← hV]
      simp only [sgV]
      simp only [frR, dstAt, List.getElem?_toArray, List.getElem?_cons_zero, List.getElem?_cons_succ, Option.bind_some, Act.put, List.setIfInBounds_toArray, List.set_cons_zero, List.set_cons_succ]; simp only [e6, e12]; go_simp; first | done | exact rfl
    · refine ⟨_, rfl, fun u hu hd => .inl ⟨V 14, u, ?_, hu, by simp [sgT, sgR, vsX], (fun j _ _ _ h => h)⟩⟩
      have e13 : vs 13 = V 13 := hd 13 (by kernel_rfl)
      rw [← hV] at e13
      simp only [sgV] at e13
      obtain ⟨⟨c0, c3⟩, ⟨d0, d1, d2, d3⟩, f0, f1, f2, f3⟩ := HS.out u hu
      rw [← hV]
      simp only [sgV]
      simp only [frR, dstAt, List.getElem?_toArray, List.getElem?_cons_zero, List.getElem?_cons_succ, Option.bind_some, Act.put, List.setIfInBounds_toArray, List.set_cons_zero, List.set_cons_succ]; simp only [e13]; go_simp; first | done | exact rfl
    · refine ⟨_, rfl, fun u hu hd => .inl ⟨V 15, u, ?_, hu, by simp [sgT, sgR, vsX], (fun j _ _ _ h => h)⟩⟩
      obtain ⟨⟨c0, c3⟩, ⟨d0, d1, d2, d3⟩, f0, f1, f2, f3⟩ := HS.out u hu
      rw [← hV]
      simp only [sgV]
      simp only [frR, dstAt, List.getElem?_toArray, List.getElem?_cons_zero, List.getElem?_cons_succ, Option.bind_some, Act.put, List.setIfInBounds_toArray, List.set_cons_zero, List.set_cons_succ]; go_simp; first | done | exact rfl
    · refine ⟨_, rfl, fun u hu hd => .inl ⟨V 16, u, ?_, hu, by simp [sgT, sgR, vsX], (fun j _ _ _ h => h)⟩⟩
      have e15 : vs 15 = V 15 := hd 15 (by kernel_rfl)
      rw [← hV] at e15
      simp only [sgV] at e15
      obtain ⟨⟨c0, c3⟩, ⟨d0, d1, d2, d3⟩, f0, f1, f2, f3⟩ := HS.out u hu
      rw [← hV]
      simp only [sgV]
      simp only [frR, dstAt, List.getElem?_toArray, List.getElem?_cons_zero, List.getElem?_cons_succ, Option.bind_some, Act.put, List.setIfInBounds_toArray, List.set_cons_zero, List.set_cons_succ]; simp only [e15]; go_simp; first | done | exact rfl
    · refine ⟨_, rfl, fun u hu hd => .inl ⟨V 17, u, ?_, hu, by simp [sgT, sgR, vsX], (fun j _ _ _ h => h)⟩⟩
      have e16 : vs 16 = V 16 := hd 16 (by kernel_rfl)
      rw [← hV] at e16
      simp only [sgV] at e16
      obtain ⟨⟨c0, c3⟩, ⟨d0, d1, d2, d3⟩, f0, f1, f2, f3⟩ := HS.out u hu
      rw [← hV]
      simp only [sgV]
      simp only [frR, dstAt, List.getElem?_toArray, List.getElem?_cons_zero, List.getElem?_cons_succ, Option.bind_some, Act.put, List.setIfInBounds_toArray, List.set_cons_zero, List.set_cons_succ]; simp only [e16]; go_simp; first | done | exact rfl
    · refine ⟨_, rfl, fun u hu hd => .inl ⟨V 18, u, ?_, hu, by simp [sgT, sgR, vsX], (fun j _ _ _ h => h)⟩⟩
      have e17 : vs 17 = V 17 := hd 17 (by kernel_rfl)
      rw [← hV] at e17
      simp only [sgV] at e17
      obtain ⟨⟨c0, c3⟩, ⟨d0, d1, d2, d3⟩, f0, f1, f2, f3⟩ := HS.out u hu
      rw [← hV]
      simp only [sgV]
      simp only [frR, dstAt, List.getElem?_toArray, List.getElem?_cons_zero, List.getElem?_cons_succ, Option.bind_some, Act.put, List.setIfInBounds_toArray, List.set_cons_zero, List.set_cons_succ]; simp only [e17]; go_simp; first | done | exact rfl
    · refine ⟨_, rfl, fun u hu hd => .inr (.inl ⟨31, #[V 18], ?_, ?_⟩)⟩
      · have e18 : vs 18 = V 18 := hd 18 (by kernel_rfl)
        simp only [frR, dstAt, List.getElem?_toArray, List.getElem?_cons_zero, List.getElem?_cons_succ, Option.bind_some, Act.put, List.setIfInBounds_toArray, List.set_cons_zero, List.set_cons_succ]; simp only [e18]; go_simp; first | done | exact rfl
      · rw [← hV]
        refine (HC2.out u (kd.trans hu)).mono ?_
        rintro e w2 ⟨rfl, hk2⟩
        exact ⟨_, rfl, hu.trans hk2, by simp [sgT, sgR, sgV, vsX], (fun j _ _ _ h => sgR_kept hk2 j vs h)⟩
    · refine ⟨_, rfl, fun u hu hd => .inl ⟨V 20, u, ?_, hu, by simp [sgT, sgR, vsX], (fun j _ _ _ h => h)⟩⟩
      have e14 : vs 14 = V 14 := hd 14 (by kernel_rfl)
      rw [← hV] at e14
      simp only [sgV] at e14
      have e19 : vs 19 = V 19 := hd 19 (by kernel_rfl)
      rw [← hV] at e19
      simp only [sgV] at e19
      obtain ⟨⟨c0, c3⟩, ⟨d0, d1, d2, d3⟩, f0, f1, f2, f3⟩ := HS.out u hu
      rw [← hV]
      simp only [sgV]
      simp only [frR, dstAt, List.getElem?_toArray, List.getElem?_cons_zero, List.getElem?_cons_succ, Option.bind_some, Act.put, List.setIfInBounds_toArray, List.set_cons_zero, List.set_cons_succ]; simp only [e14, e19]; go_simp; first | done | exact rfl
    · refine ⟨_, rfl, fun u hu hd => .inl ⟨V 21, u, ?_, hu, by simp [sgT, sgR, vsX], (fun j _ _ _ h => h)⟩⟩
      have e20 : vs 20 = V 20 := hd 20 (by kernel_rfl)
      rw [← hV] at e20
      simp only [sgV] at e20
      obtain ⟨⟨c0, c3⟩, ⟨d0, d1, d2, d3⟩, f0, f1, f2, f3⟩ := HS.out u hu
      rw [← hV]
      simp only [sgV]
      simp only [frR, dstAt, List.getElem?_toArray, List.getElem?_cons_zero, List.getElem?_cons_succ, Option.bind_some, Act.put, List.setIfInBounds_toArray, List.set_cons_zero, List.set_cons_succ]; simp only [e20]; go_simp; first | done | exact rfl
  · intro vs u hu
    simp only [List.drop_succ_cons, List.drop_zero, seqWp]
    simp only [frR, dstAt, List.getElem?_toArray, List.getElem?_cons_zero, List.getElem?_cons_succ, Option.bind_some, Act.put, List.setIfInBounds_toArray, List.set_cons_zero, List.set_cons_succ]
    intro hR
    have e21 : vs 21 = V 21 := hR 21 (by decide) (fun _ _ => by trivial)
    rw [← hV] at e21
    simp only [sgV] at e21
    simp only [e21]
    have hu : Kept W.drew u := hu
    go_wp2_with fail
    go_ret
    exact ⟨by rw [HW.out]; rfl, k0.trans (kd.trans hu)⟩
set_option maxHeartbeats 16000000 in
set_option maxRecDepth 100000 in
theorem ex13_20 (m : Nat) (H : TxEx m) (s : ByteArray) (n : Int) (x y : Nd) (hx0 : x.size ≤ m) (hx2 : x.size ≤ 200) (hxb : x.bulk ≤ 1048576) (hy0 : y.size ≤ m) (hy2 : y.size ≤ 200) (hyb : y.bulk ≤ 1048576) (hox : okT x = true) (hoy : okT y = true) (hsx : st x.op = 3) (hsy : st y.op = 3) (w : World) (base : Nat) (v : Value) (hv : NdV w base (.mk 20 s n [x, y]) v) :
    Calls Tryz.prog 31 #[v] w fun e w' => e = .returned (.string (wT (.mk 20 s n [x, y]))) ∧ Kept w w' := by
  rw [NdV] at hv
  obtain ⟨ao, cap, rfl, hml, hks⟩ := hv
  simp only [List.length_cons, List.length_nil, Nat.zero_add, Nat.reduceAdd]
  have b0 := Cells.new w 29 #[.int .i64 20, .string s, .int .i64 n, .slice ao 2 cap]
  have k0 : Kept w (w.alloc (.cells #[.int .i64 20, .string s, .int .i64 n, .slice ao 2 cap] 29)) := Kept.alloc (Below.refl _ _) _
  obtain ⟨b, off, a2, cq, rfl, g0, g1, g2, g3, hvx⟩ := kid_0 hks k0 (x := x) rfl
  obtain ⟨b', off', a3, cr, eb, h0, h1, h2, h3, hvy⟩ := kid_1 hks k0 (x := y) rfl
  simp at eb
  obtain ⟨rfl, rfl⟩ := eb
  have hE1 := wT_small hox hx2 hxb
  have hE2 := wT_small hoy hy2 hyb
  have HW : Hid (wT (.mk 20 s n [x, y]) = (((((⟨#[40]⟩ ++ wT x) ++ ⟨#[32]⟩) ++ ⟨#[45]⟩) ++ ⟨#[32]⟩) ++ wT y) ++ ⟨#[41]⟩) := by rw [Hid, wT]; rfl
  have hC1 := fun u (hu : Kept (w.alloc (.cells #[.int .i64 20, .string s, .int .i64 n, .slice (some ⟨b, off, none⟩) 2 cap] 29)) u) => H x hx0 hx2 hxb hox hsx u base _ (hvx.kept hu)
  have hC2 := fun u (hu : Kept (w.alloc (.cells #[.int .i64 20, .string s, .int .i64 n, .slice (some ⟨b, off, none⟩) 2 cap] 29)) u) => H y hy0 hy2 hyb hoy hsy u base _ (hvy.kept hu)
  obtain ⟨E1, hE⟩ : ∃ E, wT x = E := ⟨_, rfl⟩
  rw [hE] at hC1 hE1 HW
  obtain ⟨E2, hE'⟩ : ∃ E, wT y = E := ⟨_, rfl⟩
  rw [hE'] at hC2 hE2 HW
  obtain ⟨xo, exo⟩ : ∃ o, x.op = o := ⟨_, rfl⟩
  obtain ⟨xs, exs⟩ : ∃ o, x.s = o := ⟨_, rfl⟩
  obtain ⟨xn, exn⟩ : ∃ o, x.n = o := ⟨_, rfl⟩
  obtain ⟨xl, exl⟩ : ∃ o, x.kids.length = o := ⟨_, rfl⟩
  rw [exo, exs, exn, exl] at hC1
  rw [exo] at g0
  rw [exs] at g1
  rw [exn] at g2
  rw [exl] at g3
  obtain ⟨yo, eyo⟩ : ∃ o, y.op = o := ⟨_, rfl⟩
  obtain ⟨ys, eys⟩ : ∃ o, y.s = o := ⟨_, rfl⟩
  obtain ⟨yn, eyn⟩ : ∃ o, y.n = o := ⟨_, rfl⟩
  obtain ⟨yl, eyl⟩ : ∃ o, y.kids.length = o := ⟨_, rfl⟩
  rw [eyo, eys, eyn, eyl] at hC2
  rw [eyo] at h0
  rw [eys] at h1
  rw [eyn] at h2
  rw [eyl] at h3
  have HC1 : Hid _ := hC1
  have HC2 : Hid _ := hC2
  clear hC1 hC2 hks hml hE hE' hox hoy hsx hsy hvx hvy H exo exs exn exl eyo eys eyn eyl hx0 hx2 hxb hy0 hy2 hyb
  go_enter Tryz.func31, Tryz.ntmps31
  go_wp2_with fail
  obtain ⟨W, hW⟩ : ∃ W, w.alloc (.cells #[.int .i64 20, .string s, .int .i64 n, .slice (some ⟨b, off, none⟩) 2 cap] 29) = W := ⟨_, rfl⟩
  rw [hW] at b0 k0 g0 g1 g2 g3 h0 h1 h2 h3 HC1 HC2
  simp only [hW]
  clear hW
  have kd : Kept W W.drew := (Below.refl _ _).drew
  have HS : Hid (∀ u, Kept W.drew u → (u.cell? ⟨w.heap.size, 0, none⟩ = some (.int .i64 20) ∧ u.cell? ⟨w.heap.size, 3, none⟩ = some (.slice (some ⟨b, off, none⟩) 2 cap)) ∧ (u.cell? ⟨b, off, none⟩ = some (.int .i64 xo) ∧ u.cell? ⟨b, off + 1, none⟩ = some (.string xs) ∧ u.cell? ⟨b, off + 2, none⟩ = some (.int .i64 xn) ∧ u.cell? ⟨b, off + 3, none⟩ = some (.slice a2 xl cq)) ∧ (u.cell? ⟨b, off + 4, none⟩ = some (.int .i64 yo) ∧ u.cell? ⟨b, off + 4 + 1, none⟩ = some (.string ys) ∧ u.cell? ⟨b, off + 4 + 2, none⟩ = some (.int .i64 yn) ∧ u.cell? ⟨b, off + 4 + 3, none⟩ = some (.slice a3 yl cr))) := fun u hu => ⟨⟨(b0.kept (kd.trans hu)).cell 0, (b0.kept (kd.trans hu)).cell 3⟩, ⟨kept_cell (kd.trans hu) g0, kept_cell (kd.trans hu) g1, kept_cell (kd.trans hu) g2, kept_cell (kd.trans hu) g3⟩, kept_cell (kd.trans hu) h0, kept_cell (kd.trans hu) h1, kept_cell (kd.trans hu) h2, kept_cell (kd.trans hu) h3⟩
  have p0 : ¬ 9223372036854775807 < 1 + E1.size := by omega
  have p1 : ¬ 9223372036854775807 < 1 + E1.size + 1 := by omega
  have p2 : ¬ 9223372036854775807 < 1 + E1.size + 1 + 1 := by omega
  have p3 : ¬ 9223372036854775807 < 1 + E1.size + 1 + 1 + 1 := by omega
  have p4 : ¬ 9223372036854775807 < 1 + E1.size + 1 + 1 + 1 + E2.size := by omega
  have p5 : ¬ 9223372036854775807 < 1 + E1.size + 1 + 1 + 1 + E2.size + 1 := by omega
  obtain ⟨V, hV⟩ : ∃ V, sgV w.heap.size b off cap (.agg #[.int .i64 xo, .string xs, .int .i64 xn, .slice a2 xl cq]) (.agg #[.int .i64 yo, .string ys, .int .i64 yn, .slice a3 yl cr]) E1 E2 ⟨#[45]⟩ 20 1 = V := ⟨_, rfl⟩
  refine wp_region_told 22 (sgT W.drew V 1 ⟨#[45]⟩) (fun _ _ => false) (by kernel_rfl) (by kernel_rfl) (by decide) (by kernel_rfl) (by kernel_rfl) (sgT_own _ _ _ _) (Below.refl _ _) ?_ ?_
  · intro i hi vs
    rcases (show i = 0 ∨ i = 1 ∨ i = 2 ∨ i = 3 ∨ i = 4 ∨ i = 5 ∨ i = 6 ∨ i = 7 ∨ i = 8 ∨ i = 9 ∨ i = 10 ∨ i = 11 ∨ i = 12 ∨ i = 13 ∨ i = 14 ∨ i = 15 ∨ i = 16 ∨ i = 17 ∨ i = 18 ∨ i = 19 ∨ i = 20 ∨ i = 21 by omega) with rfl | rfl | rfl | rfl | rfl | rfl | rfl | rfl | rfl | rfl | rfl | rfl | rfl | rfl | rfl | rfl | rfl | rfl | rfl | rfl | rfl | rfl
    · refine ⟨_, rfl, fun u hu hd => .inl ⟨V 0, u, ?_, hu, by simp [sgT, sgR, vsX], (fun j _ _ _ h => h)⟩⟩
      obtain ⟨⟨c0, c3⟩, ⟨d0, d1, d2, d3⟩, f0, f1, f2, f3⟩ := HS.out u hu
      rw [← hV]
      simp only [sgV]
      simp only [frR, dstAt, List.getElem?_toArray, List.getElem?_cons_zero, List.getElem?_cons_succ, Option.bind_some, Act.put, List.setIfInBounds_toArray, List.set_cons_zero, List.set_cons_succ]; go_simp; first | done | exact rfl
    · refine ⟨_, rfl, fun u hu hd => .inl ⟨V 1, u, ?_, hu, by simp [sgT, sgR, vsX], (fun j _ _ _ h => h)⟩⟩
      have e0 : vs 0 = V 0 := hd 0 (by kernel_rfl)
      rw [← hV] at e0
      simp only [sgV] at e0
      obtain ⟨⟨c0, c3⟩, ⟨d0, d1, d2, d3⟩, f0, f1, f2, f3⟩ := HS.out u hu
      rw [← hV]
      simp only [sgV]
      simp only [frR, dstAt, List.getElem?_toArray, List.getElem?_cons_zero, List.getElem?_cons_succ, Option.bind_some, Act.put, List.setIfInBounds_toArray, List.set_cons_zero, List.set_cons_succ]; simp only [e0]; go_simp; first | done | exact rfl
    · refine ⟨_, rfl, fun u hu hd => .inl ⟨V 2, u, ?_, hu, by simp [sgT, sgR, vsX], (fun j _ _ _ h => h)⟩⟩
      have e1 : vs 1 = V 1 := hd 1 (by kernel_rfl)
      rw [← hV] at e1
      simp only [sgV] at e1
      obtain ⟨⟨c0, c3⟩, ⟨d0, d1, d2, d3⟩, f0, f1, f2, f3⟩ := HS.out u hu
      rw [← hV]
      simp only [sgV]
      simp only [frR, dstAt, List.getElem?_toArray, List.getElem?_cons_zero, List.getElem?_cons_succ, Option.bind_some, Act.put, List.setIfInBounds_toArray, List.set_cons_zero, List.set_cons_succ]; simp only [e1]; go_simp; first | done | exact rfl
    · refine ⟨_, rfl, fun u hu hd => .inl ⟨V 3, u, ?_, hu, by simp [sgT, sgR, vsX], (fun j _ _ _ h => h)⟩⟩
      have e2 : vs 2 = V 2 := hd 2 (by kernel_rfl)
      rw [← hV] at e2
      simp only [sgV] at e2
      obtain ⟨⟨c0, c3⟩, ⟨d0, d1, d2, d3⟩, f0, f1, f2, f3⟩ := HS.out u hu
      rw [← hV]
      simp only [sgV]
      simp only [frR, dstAt, List.getElem?_toArray, List.getElem?_cons_zero, List.getElem?_cons_succ, Option.bind_some, Act.put, List.setIfInBounds_toArray, List.set_cons_zero, List.set_cons_succ]; simp only [e2]; go_simp; first | done | exact rfl
    · refine ⟨_, rfl, fun u hu hd => .inr (.inl ⟨31, #[V 3], ?_, ?_⟩)⟩
      · have e3 : vs 3 = V 3 := hd 3 (by kernel_rfl)
        simp only [frR, dstAt, List.getElem?_toArray, List.getElem?_cons_zero, List.getElem?_cons_succ, Option.bind_some, Act.put, List.setIfInBounds_toArray, List.set_cons_zero, List.set_cons_succ]; simp only [e3]; go_simp; first | done | exact rfl
      · rw [← hV]
        refine (HC1.out u (kd.trans hu)).mono ?_
        rintro e w2 ⟨rfl, hk2⟩
        exact ⟨_, rfl, hu.trans hk2, by simp [sgT, sgR, sgV, vsX], (fun j _ _ _ h => sgR_kept hk2 j vs h)⟩
    · refine ⟨_, rfl, fun u hu hd => .inl ⟨V 5, u, ?_, hu, by simp [sgT, sgR, vsX], (fun j _ _ _ h => h)⟩⟩
      have e4 : vs 4 = V 4 := hd 4 (by kernel_rfl)
      rw [← hV] at e4
      simp only [sgV] at e4
      obtain ⟨⟨c0, c3⟩, ⟨d0, d1, d2, d3⟩, f0, f1, f2, f3⟩ := HS.out u hu
      rw [← hV]
      simp only [sgV]
      simp only [frR, dstAt, List.getElem?_toArray, List.getElem?_cons_zero, List.getElem?_cons_succ, Option.bind_some, Act.put, List.setIfInBounds_toArray, List.set_cons_zero, List.set_cons_succ]; simp only [e4]; go_simp; first | done | exact rfl
    · refine ⟨_, rfl, fun u hu hd => .inl ⟨V 6, u, ?_, hu, by simp [sgT, sgR, vsX], (fun j _ _ _ h => h)⟩⟩
      have e5 : vs 5 = V 5 := hd 5 (by kernel_rfl)
      rw [← hV] at e5
      simp only [sgV] at e5
      obtain ⟨⟨c0, c3⟩, ⟨d0, d1, d2, d3⟩, f0, f1, f2, f3⟩ := HS.out u hu
      rw [← hV]
      simp only [sgV]
      simp only [frR, dstAt, List.getElem?_toArray, List.getElem?_cons_zero, List.getElem?_cons_succ, Option.bind_some, Act.put, List.setIfInBounds_toArray, List.set_cons_zero, List.set_cons_succ]; simp only [e5]; go_simp; first | done | exact rfl
    · refine ⟨_, rfl, fun u hu hd => .inr (.inl ⟨51, #[], ?_, ?_⟩)⟩
      · simp only [frR, dstAt, List.getElem?_toArray, List.getElem?_cons_zero, List.getElem?_cons_succ, Option.bind_some, Act.put, List.setIfInBounds_toArray, List.set_cons_zero, List.set_cons_succ]; go_simp; first | done | exact rfl
      · refine (l13Signs_ok u).mono ?_
        rintro e w2 ⟨g, rfl, hk2, s0, s1, s2, s3, s4⟩
        exact ⟨_, rfl, hu.trans hk2, ⟨g, by simp [vsX], s1⟩, (fun j _ _ _ h => sgR_kept hk2 j vs h)⟩
    · refine ⟨_, rfl, fun u hu hd => .inl ⟨V 8, u, ?_, hu, by simp [sgT, sgR, vsX], (fun j _ _ _ h => h)⟩⟩
      obtain ⟨⟨c0, c3⟩, ⟨d0, d1, d2, d3⟩, f0, f1, f2, f3⟩ := HS.out u hu
      rw [← hV]
      simp only [sgV]
      simp only [frR, dstAt, List.getElem?_toArray, List.getElem?_cons_zero, List.getElem?_cons_succ, Option.bind_some, Act.put, List.setIfInBounds_toArray, List.set_cons_zero, List.set_cons_succ]; go_simp; first | done | exact rfl
    · refine ⟨_, rfl, fun u hu hd => .inl ⟨V 9, u, ?_, hu, by simp [sgT, sgR, vsX], (fun j _ _ _ h => h)⟩⟩
      have e8 : vs 8 = V 8 := hd 8 (by kernel_rfl)
      rw [← hV] at e8
      simp only [sgV] at e8
      obtain ⟨⟨c0, c3⟩, ⟨d0, d1, d2, d3⟩, f0, f1, f2, f3⟩ := HS.out u hu
      rw [← hV]
      simp only [sgV]
      simp only [frR, dstAt, List.getElem?_toArray, List.getElem?_cons_zero, List.getElem?_cons_succ, Option.bind_some, Act.put, List.setIfInBounds_toArray, List.set_cons_zero, List.set_cons_succ]; simp only [e8]; go_simp; first | done | exact rfl
    · refine ⟨_, rfl, fun u hu hd => .inl ⟨V 10, u, ?_, hu, by simp [sgT, sgR, vsX], (fun j _ _ _ h => h)⟩⟩
      have e9 : vs 9 = V 9 := hd 9 (by kernel_rfl)
      rw [← hV] at e9
      simp only [sgV] at e9
      obtain ⟨⟨c0, c3⟩, ⟨d0, d1, d2, d3⟩, f0, f1, f2, f3⟩ := HS.out u hu
      rw [← hV]
      simp only [sgV]
      simp only [frR, dstAt, List.getElem?_toArray, List.getElem?_cons_zero, List.getElem?_cons_succ, Option.bind_some, Act.put, List.setIfInBounds_toArray, List.set_cons_zero, List.set_cons_succ]; simp only [e9]; go_simp; first | done | exact rfl
    · refine ⟨_, rfl, fun u hu hd => ?_⟩
      obtain ⟨g, e7, hc⟩ : ∃ g, vs 7 = .slice (some ⟨g, 0, none⟩) 5 5 ∧ u.cell? ⟨g, 1, none⟩ = some (.string ⟨#[45]⟩) := hd 7 (by kernel_rfl)
      have e10 : vs 10 = V 10 := hd 10 (by kernel_rfl)
      have e10' : vs 10 = .int .i64 1 := by rw [e10, ← hV]; rfl
      refine .inl ⟨.pointer (some ⟨g, 1, none⟩), u, ?_, hu, ⟨g, by simp [vsX], hc⟩, (fun j _ _ _ h => h)⟩
      simp only [frR, dstAt, List.getElem?_toArray, List.getElem?_cons_zero, List.getElem?_cons_succ, Option.bind_some, Act.put, List.setIfInBounds_toArray, List.set_cons_zero, List.set_cons_succ]; simp only [e7, e10']; go_simp; first | done | exact rfl
    · refine ⟨_, rfl, fun u hu hd => ?_⟩
      obtain ⟨g, e11, hc⟩ : ∃ g, vs 11 = .pointer (some ⟨g, 1, none⟩) ∧ u.cell? ⟨g, 1, none⟩ = some (.string ⟨#[45]⟩) := hd 11 (by kernel_rfl)
      refine .inl ⟨.string ⟨#[45]⟩, u, ?_, hu, by rw [← hV]; simp [sgT, sgR, sgV, vsX], (fun j _ _ _ h => h)⟩
      simp only [frR, dstAt, List.getElem?_toArray, List.getElem?_cons_zero, List.getElem?_cons_succ, Option.bind_some, Act.put, List.setIfInBounds_toArray, List.set_cons_zero, List.set_cons_succ]; simp only [e11]; go_simp; first | done | exact rfl
    · refine ⟨_, rfl, fun u hu hd => .inl ⟨V 13, u, ?_, hu, by simp [sgT, sgR, vsX], (fun j _ _ _ h => h)⟩⟩
      have e6 : vs 6 = V 6 := hd 6 (by kernel_rfl)
      rw [← hV] at e6
      simp only [sgV] at e6
      have e12 : vs 12 = V 12 := hd 12 (by kernel_rfl)
      rw [← hV] at e12
      simp only [sgV] at e12
      obtain ⟨⟨c0, c3⟩, ⟨d0, d1, d2, d3⟩, f0, f1, f2, f3⟩ := HS.out u hu
      rw [← hV]
      simp only [sgV]
      simp only [frR, dstAt, List.getElem?_toArray, List.getElem?_cons_zero, List.getElem?_cons_succ, Option.bind_some, Act.put, List.setIfInBounds_toArray, List.set_cons_zero, List.set_cons_succ]; simp only [e6, e12]; go_simp; first | done | exact rfl
    · refine ⟨_, rfl, fun u hu hd => .inl ⟨V 14, u, ?_, hu, by simp [sgT, sgR, vsX], (fun j _ _ _ h => h)⟩⟩
      have e13 : vs 13 = V 13 := hd 13 (by kernel_rfl)
      rw [← hV] at e13
      simp only [sgV] at e13
      obtain ⟨⟨c0, c3⟩, ⟨d0, d1, d2, d3⟩, f0, f1, f2, f3⟩ := HS.out u hu
      rw [← hV]
      simp only [sgV]
      simp only [frR, dstAt, List.getElem?_toArray, List.getElem?_cons_zero, List.getElem?_cons_succ, Option.bind_some, Act.put, List.setIfInBounds_toArray, List.set_cons_zero, List.set_cons_succ]; simp only [e13]; go_simp; first | done | exact rfl
    · refine ⟨_, rfl, fun u hu hd => .inl ⟨V 15, u, ?_, hu, by simp [sgT, sgR, vsX], (fun j _ _ _ h => h)⟩⟩
      obtain ⟨⟨c0, c3⟩, ⟨d0, d1, d2, d3⟩, f0, f1, f2, f3⟩ := HS.out u hu
      rw [← hV]
      simp only [sgV]
      simp only [frR, dstAt, List.getElem?_toArray, List.getElem?_cons_zero, List.getElem?_cons_succ, Option.bind_some, Act.put, List.setIfInBounds_toArray, List.set_cons_zero, List.set_cons_succ]; go_simp; first | done | exact rfl
    · refine ⟨_, rfl, fun u hu hd => .inl ⟨V 16, u, ?_, hu, by simp [sgT, sgR, vsX], (fun j _ _ _ h => h)⟩⟩
      have e15 : vs 15 = V 15 := hd 15 (by kernel_rfl)
      rw [← hV] at e15
      simp only [sgV] at e15
      obtain ⟨⟨c0, c3⟩, ⟨d0, d1, d2, d3⟩, f0, f1, f2, f3⟩ := HS.out u hu
      rw [← hV]
      simp only [sgV]
      simp only [frR, dstAt, List.getElem?_toArray, List.getElem?_cons_zero, List.getElem?_cons_succ, Option.bind_some, Act.put, List.setIfInBounds_toArray, List.set_cons_zero, List.set_cons_succ]; simp only [e15]; go_simp; first | done | exact rfl
    · refine ⟨_, rfl, fun u hu hd => .inl ⟨V 17, u, ?_, hu, by simp [sgT, sgR, vsX], (fun j _ _ _ h => h)⟩⟩
      have e16 : vs 16 = V 16 := hd 16 (by kernel_rfl)
      rw [← hV] at e16
      simp only [sgV] at e16
      obtain ⟨⟨c0, c3⟩, ⟨d0, d1, d2, d3⟩, f0, f1, f2, f3⟩ := HS.out u hu
      rw [← hV]
      simp only [sgV]
      simp only [frR, dstAt, List.getElem?_toArray, List.getElem?_cons_zero, List.getElem?_cons_succ, Option.bind_some, Act.put, List.setIfInBounds_toArray, List.set_cons_zero, List.set_cons_succ]; simp only [e16]; go_simp; first | done | exact rfl
    · refine ⟨_, rfl, fun u hu hd => .inl ⟨V 18, u, ?_, hu, by simp [sgT, sgR, vsX], (fun j _ _ _ h => h)⟩⟩
      have e17 : vs 17 = V 17 := hd 17 (by kernel_rfl)
      rw [← hV] at e17
      simp only [sgV] at e17
      obtain ⟨⟨c0, c3⟩, ⟨d0, d1, d2, d3⟩, f0, f1, f2, f3⟩ := HS.out u hu
      rw [← hV]
      simp only [sgV]
      simp only [frR, dstAt, List.getElem?_toArray, List.getElem?_cons_zero, List.getElem?_cons_succ, Option.bind_some, Act.put, List.setIfInBounds_toArray, List.set_cons_zero, List.set_cons_succ]; simp only [e17]; go_simp; first | done | exact rfl
    · refine ⟨_, rfl, fun u hu hd => .inr (.inl ⟨31, #[V 18], ?_, ?_⟩)⟩
      · have e18 : vs 18 = V 18 := hd 18 (by kernel_rfl)
        simp only [frR, dstAt, List.getElem?_toArray, List.getElem?_cons_zero, List.getElem?_cons_succ, Option.bind_some, Act.put, List.setIfInBounds_toArray, List.set_cons_zero, List.set_cons_succ]; simp only [e18]; go_simp; first | done | exact rfl
      · rw [← hV]
        refine (HC2.out u (kd.trans hu)).mono ?_
        rintro e w2 ⟨rfl, hk2⟩
        exact ⟨_, rfl, hu.trans hk2, by simp [sgT, sgR, sgV, vsX], (fun j _ _ _ h => sgR_kept hk2 j vs h)⟩
    · refine ⟨_, rfl, fun u hu hd => .inl ⟨V 20, u, ?_, hu, by simp [sgT, sgR, vsX], (fun j _ _ _ h => h)⟩⟩
      have e14 : vs 14 = V 14 := hd 14 (by kernel_rfl)
      rw [← hV] at e14
      simp only [sgV] at e14
      have e19 : vs 19 = V 19 := hd 19 (by kernel_rfl)
      rw [← hV] at e19
      simp only [sgV] at e19
      obtain ⟨⟨c0, c3⟩, ⟨d0, d1, d2, d3⟩, f0, f1, f2, f3⟩ := HS.out u hu
      rw [← hV]
      simp only [sgV]
      simp only [frR, dstAt, List.getElem?_toArray, List.getElem?_cons_zero, List.getElem?_cons_succ, Option.bind_some, Act.put, List.setIfInBounds_toArray, List.set_cons_zero, List.set_cons_succ]; simp only [e14, e19]; go_simp; first | done | exact rfl
    · refine ⟨_, rfl, fun u hu hd => .inl ⟨V 21, u, ?_, hu, by simp [sgT, sgR, vsX], (fun j _ _ _ h => h)⟩⟩
      have e20 : vs 20 = V 20 := hd 20 (by kernel_rfl)
      rw [← hV] at e20
      simp only [sgV] at e20
      obtain ⟨⟨c0, c3⟩, ⟨d0, d1, d2, d3⟩, f0, f1, f2, f3⟩ := HS.out u hu
      rw [← hV]
      simp only [sgV]
      simp only [frR, dstAt, List.getElem?_toArray, List.getElem?_cons_zero, List.getElem?_cons_succ, Option.bind_some, Act.put, List.setIfInBounds_toArray, List.set_cons_zero, List.set_cons_succ]; simp only [e20]; go_simp; first | done | exact rfl
  · intro vs u hu
    simp only [List.drop_succ_cons, List.drop_zero, seqWp]
    simp only [frR, dstAt, List.getElem?_toArray, List.getElem?_cons_zero, List.getElem?_cons_succ, Option.bind_some, Act.put, List.setIfInBounds_toArray, List.set_cons_zero, List.set_cons_succ]
    intro hR
    have e21 : vs 21 = V 21 := hR 21 (by decide) (fun _ _ => by trivial)
    rw [← hV] at e21
    simp only [sgV] at e21
    simp only [e21]
    have hu : Kept W.drew u := hu
    go_wp2_with fail
    go_ret
    exact ⟨by rw [HW.out]; rfl, k0.trans (kd.trans hu)⟩
set_option maxHeartbeats 16000000 in
set_option maxRecDepth 100000 in
theorem ex13_21 (m : Nat) (H : TxEx m) (s : ByteArray) (n : Int) (x y : Nd) (hx0 : x.size ≤ m) (hx2 : x.size ≤ 200) (hxb : x.bulk ≤ 1048576) (hy0 : y.size ≤ m) (hy2 : y.size ≤ 200) (hyb : y.bulk ≤ 1048576) (hox : okT x = true) (hoy : okT y = true) (hsx : st x.op = 3) (hsy : st y.op = 3) (w : World) (base : Nat) (v : Value) (hv : NdV w base (.mk 21 s n [x, y]) v) :
    Calls Tryz.prog 31 #[v] w fun e w' => e = .returned (.string (wT (.mk 21 s n [x, y]))) ∧ Kept w w' := by
  rw [NdV] at hv
  obtain ⟨ao, cap, rfl, hml, hks⟩ := hv
  simp only [List.length_cons, List.length_nil, Nat.zero_add, Nat.reduceAdd]
  have b0 := Cells.new w 29 #[.int .i64 21, .string s, .int .i64 n, .slice ao 2 cap]
  have k0 : Kept w (w.alloc (.cells #[.int .i64 21, .string s, .int .i64 n, .slice ao 2 cap] 29)) := Kept.alloc (Below.refl _ _) _
  obtain ⟨b, off, a2, cq, rfl, g0, g1, g2, g3, hvx⟩ := kid_0 hks k0 (x := x) rfl
  obtain ⟨b', off', a3, cr, eb, h0, h1, h2, h3, hvy⟩ := kid_1 hks k0 (x := y) rfl
  simp at eb
  obtain ⟨rfl, rfl⟩ := eb
  have hE1 := wT_small hox hx2 hxb
  have hE2 := wT_small hoy hy2 hyb
  have HW : Hid (wT (.mk 21 s n [x, y]) = (((((⟨#[40]⟩ ++ wT x) ++ ⟨#[32]⟩) ++ ⟨#[42]⟩) ++ ⟨#[32]⟩) ++ wT y) ++ ⟨#[41]⟩) := by rw [Hid, wT]; rfl
  have hC1 := fun u (hu : Kept (w.alloc (.cells #[.int .i64 21, .string s, .int .i64 n, .slice (some ⟨b, off, none⟩) 2 cap] 29)) u) => H x hx0 hx2 hxb hox hsx u base _ (hvx.kept hu)
  have hC2 := fun u (hu : Kept (w.alloc (.cells #[.int .i64 21, .string s, .int .i64 n, .slice (some ⟨b, off, none⟩) 2 cap] 29)) u) => H y hy0 hy2 hyb hoy hsy u base _ (hvy.kept hu)
  obtain ⟨E1, hE⟩ : ∃ E, wT x = E := ⟨_, rfl⟩
  rw [hE] at hC1 hE1 HW
  obtain ⟨E2, hE'⟩ : ∃ E, wT y = E := ⟨_, rfl⟩
  rw [hE'] at hC2 hE2 HW
  obtain ⟨xo, exo⟩ : ∃ o, x.op = o := ⟨_, rfl⟩
  obtain ⟨xs, exs⟩ : ∃ o, x.s = o := ⟨_, rfl⟩
  obtain ⟨xn, exn⟩ : ∃ o, x.n = o := ⟨_, rfl⟩
  obtain ⟨xl, exl⟩ : ∃ o, x.kids.length = o := ⟨_, rfl⟩
  rw [exo, exs, exn, exl] at hC1
  rw [exo] at g0
  rw [exs] at g1
  rw [exn] at g2
  rw [exl] at g3
  obtain ⟨yo, eyo⟩ : ∃ o, y.op = o := ⟨_, rfl⟩
  obtain ⟨ys, eys⟩ : ∃ o, y.s = o := ⟨_, rfl⟩
  obtain ⟨yn, eyn⟩ : ∃ o, y.n = o := ⟨_, rfl⟩
  obtain ⟨yl, eyl⟩ : ∃ o, y.kids.length = o := ⟨_, rfl⟩
  rw [eyo, eys, eyn, eyl] at hC2
  rw [eyo] at h0
  rw [eys] at h1
  rw [eyn] at h2
  rw [eyl] at h3
  have HC1 : Hid _ := hC1
  have HC2 : Hid _ := hC2
  clear hC1 hC2 hks hml hE hE' hox hoy hsx hsy hvx hvy H exo exs exn exl eyo eys eyn eyl hx0 hx2 hxb hy0 hy2 hyb
  go_enter Tryz.func31, Tryz.ntmps31
  go_wp2_with fail
  obtain ⟨W, hW⟩ : ∃ W, w.alloc (.cells #[.int .i64 21, .string s, .int .i64 n, .slice (some ⟨b, off, none⟩) 2 cap] 29) = W := ⟨_, rfl⟩
  rw [hW] at b0 k0 g0 g1 g2 g3 h0 h1 h2 h3 HC1 HC2
  simp only [hW]
  clear hW
  have kd : Kept W W.drew := (Below.refl _ _).drew
  have HS : Hid (∀ u, Kept W.drew u → (u.cell? ⟨w.heap.size, 0, none⟩ = some (.int .i64 21) ∧ u.cell? ⟨w.heap.size, 3, none⟩ = some (.slice (some ⟨b, off, none⟩) 2 cap)) ∧ (u.cell? ⟨b, off, none⟩ = some (.int .i64 xo) ∧ u.cell? ⟨b, off + 1, none⟩ = some (.string xs) ∧ u.cell? ⟨b, off + 2, none⟩ = some (.int .i64 xn) ∧ u.cell? ⟨b, off + 3, none⟩ = some (.slice a2 xl cq)) ∧ (u.cell? ⟨b, off + 4, none⟩ = some (.int .i64 yo) ∧ u.cell? ⟨b, off + 4 + 1, none⟩ = some (.string ys) ∧ u.cell? ⟨b, off + 4 + 2, none⟩ = some (.int .i64 yn) ∧ u.cell? ⟨b, off + 4 + 3, none⟩ = some (.slice a3 yl cr))) := fun u hu => ⟨⟨(b0.kept (kd.trans hu)).cell 0, (b0.kept (kd.trans hu)).cell 3⟩, ⟨kept_cell (kd.trans hu) g0, kept_cell (kd.trans hu) g1, kept_cell (kd.trans hu) g2, kept_cell (kd.trans hu) g3⟩, kept_cell (kd.trans hu) h0, kept_cell (kd.trans hu) h1, kept_cell (kd.trans hu) h2, kept_cell (kd.trans hu) h3⟩
  have p0 : ¬ 9223372036854775807 < 1 + E1.size := by omega
  have p1 : ¬ 9223372036854775807 < 1 + E1.size + 1 := by omega
  have p2 : ¬ 9223372036854775807 < 1 + E1.size + 1 + 1 := by omega
  have p3 : ¬ 9223372036854775807 < 1 + E1.size + 1 + 1 + 1 := by omega
  have p4 : ¬ 9223372036854775807 < 1 + E1.size + 1 + 1 + 1 + E2.size := by omega
  have p5 : ¬ 9223372036854775807 < 1 + E1.size + 1 + 1 + 1 + E2.size + 1 := by omega
  obtain ⟨V, hV⟩ : ∃ V, sgV w.heap.size b off cap (.agg #[.int .i64 xo, .string xs, .int .i64 xn, .slice a2 xl cq]) (.agg #[.int .i64 yo, .string ys, .int .i64 yn, .slice a3 yl cr]) E1 E2 ⟨#[42]⟩ 21 2 = V := ⟨_, rfl⟩
  refine wp_region_told 22 (sgT W.drew V 2 ⟨#[42]⟩) (fun _ _ => false) (by kernel_rfl) (by kernel_rfl) (by decide) (by kernel_rfl) (by kernel_rfl) (sgT_own _ _ _ _) (Below.refl _ _) ?_ ?_
  · intro i hi vs
    rcases (show i = 0 ∨ i = 1 ∨ i = 2 ∨ i = 3 ∨ i = 4 ∨ i = 5 ∨ i = 6 ∨ i = 7 ∨ i = 8 ∨ i = 9 ∨ i = 10 ∨ i = 11 ∨ i = 12 ∨ i = 13 ∨ i = 14 ∨ i = 15 ∨ i = 16 ∨ i = 17 ∨ i = 18 ∨ i = 19 ∨ i = 20 ∨ i = 21 by omega) with rfl | rfl | rfl | rfl | rfl | rfl | rfl | rfl | rfl | rfl | rfl | rfl | rfl | rfl | rfl | rfl | rfl | rfl | rfl | rfl | rfl | rfl
    · refine ⟨_, rfl, fun u hu hd => .inl ⟨V 0, u, ?_, hu, by simp [sgT, sgR, vsX], (fun j _ _ _ h => h)⟩⟩
      obtain ⟨⟨c0, c3⟩, ⟨d0, d1, d2, d3⟩, f0, f1, f2, f3⟩ := HS.out u hu
      rw [← hV]
      simp only [sgV]
      simp only [frR, dstAt, List.getElem?_toArray, List.getElem?_cons_zero, List.getElem?_cons_succ, Option.bind_some, Act.put, List.setIfInBounds_toArray, List.set_cons_zero, List.set_cons_succ]; go_simp; first | done | exact rfl
    · refine ⟨_, rfl, fun u hu hd => .inl ⟨V 1, u, ?_, hu, by simp [sgT, sgR, vsX], (fun j _ _ _ h => h)⟩⟩
      have e0 : vs 0 = V 0 := hd 0 (by kernel_rfl)
      rw [← hV] at e0
      simp only [sgV] at e0
      obtain ⟨⟨c0, c3⟩, ⟨d0, d1, d2, d3⟩, f0, f1, f2, f3⟩ := HS.out u hu
      rw [← hV]
      simp only [sgV]
      simp only [frR, dstAt, List.getElem?_toArray, List.getElem?_cons_zero, List.getElem?_cons_succ, Option.bind_some, Act.put, List.setIfInBounds_toArray, List.set_cons_zero, List.set_cons_succ]; simp only [e0]; go_simp; first | done | exact rfl
    · refine ⟨_, rfl, fun u hu hd => .inl ⟨V 2, u, ?_, hu, by simp [sgT, sgR, vsX], (fun j _ _ _ h => h)⟩⟩
      have e1 : vs 1 = V 1 := hd 1 (by kernel_rfl)
      rw [← hV] at e1
      simp only [sgV] at e1
      obtain ⟨⟨c0, c3⟩, ⟨d0, d1, d2, d3⟩, f0, f1, f2, f3⟩ := HS.out u hu
      rw [← hV]
      simp only [sgV]
      simp only [frR, dstAt, List.getElem?_toArray, List.getElem?_cons_zero, List.getElem?_cons_succ, Option.bind_some, Act.put, List.setIfInBounds_toArray, List.set_cons_zero, List.set_cons_succ]; simp only [e1]; go_simp; first | done | exact rfl
    · refine ⟨_, rfl, fun u hu hd => .inl ⟨V 3, u, ?_, hu, by simp [sgT, sgR, vsX], (fun j _ _ _ h => h)⟩⟩
      have e2 : vs 2 = V 2 := hd 2 (by kernel_rfl)
      rw [← hV] at e2
      simp only [sgV] at e2
      obtain ⟨⟨c0, c3⟩, ⟨d0, d1, d2, d3⟩, f0, f1, f2, f3⟩ := HS.out u hu
      rw [← hV]
      simp only [sgV]
      simp only [frR, dstAt, List.getElem?_toArray, List.getElem?_cons_zero, List.getElem?_cons_succ, Option.bind_some, Act.put, List.setIfInBounds_toArray, List.set_cons_zero, List.set_cons_succ]; simp only [e2]; go_simp; first | done | exact rfl
    · refine ⟨_, rfl, fun u hu hd => .inr (.inl ⟨31, #[V 3], ?_, ?_⟩)⟩
      · have e3 : vs 3 = V 3 := hd 3 (by kernel_rfl)
        simp only [frR, dstAt, List.getElem?_toArray, List.getElem?_cons_zero, List.getElem?_cons_succ, Option.bind_some, Act.put, List.setIfInBounds_toArray, List.set_cons_zero, List.set_cons_succ]; simp only [e3]; go_simp; first | done | exact rfl
      · rw [← hV]
        refine (HC1.out u (kd.trans hu)).mono ?_
        rintro e w2 ⟨rfl, hk2⟩
        exact ⟨_, rfl, hu.trans hk2, by simp [sgT, sgR, sgV, vsX], (fun j _ _ _ h => sgR_kept hk2 j vs h)⟩
    · refine ⟨_, rfl, fun u hu hd => .inl ⟨V 5, u, ?_, hu, by simp [sgT, sgR, vsX], (fun j _ _ _ h => h)⟩⟩
      have e4 : vs 4 = V 4 := hd 4 (by kernel_rfl)
      rw [← hV] at e4
      simp only [sgV] at e4
      obtain ⟨⟨c0, c3⟩, ⟨d0, d1, d2, d3⟩, f0, f1, f2, f3⟩ := HS.out u hu
      rw [← hV]
      simp only [sgV]
      simp only [frR, dstAt, List.getElem?_toArray, List.getElem?_cons_zero, List.getElem?_cons_succ, Option.bind_some, Act.put, List.setIfInBounds_toArray, List.set_cons_zero, List.set_cons_succ]; simp only [e4]; go_simp; first | done | exact rfl
    · refine ⟨_, rfl, fun u hu hd => .inl ⟨V 6, u, ?_, hu, by simp [sgT, sgR, vsX], (fun j _ _ _ h => h)⟩⟩
      have e5 : vs 5 = V 5 := hd 5 (by kernel_rfl)
      rw [← hV] at e5
      simp only [sgV] at e5
      obtain ⟨⟨c0, c3⟩, ⟨d0, d1, d2, d3⟩, f0, f1, f2, f3⟩ := HS.out u hu
      rw [← hV]
      simp only [sgV]
      simp only [frR, dstAt, List.getElem?_toArray, List.getElem?_cons_zero, List.getElem?_cons_succ, Option.bind_some, Act.put, List.setIfInBounds_toArray, List.set_cons_zero, List.set_cons_succ]; simp only [e5]; go_simp; first | done | exact rfl
    · refine ⟨_, rfl, fun u hu hd => .inr (.inl ⟨51, #[], ?_, ?_⟩)⟩
      · simp only [frR, dstAt, List.getElem?_toArray, List.getElem?_cons_zero, List.getElem?_cons_succ, Option.bind_some, Act.put, List.setIfInBounds_toArray, List.set_cons_zero, List.set_cons_succ]; go_simp; first | done | exact rfl
      · refine (l13Signs_ok u).mono ?_
        rintro e w2 ⟨g, rfl, hk2, s0, s1, s2, s3, s4⟩
        exact ⟨_, rfl, hu.trans hk2, ⟨g, by simp [vsX], s2⟩, (fun j _ _ _ h => sgR_kept hk2 j vs h)⟩
    · refine ⟨_, rfl, fun u hu hd => .inl ⟨V 8, u, ?_, hu, by simp [sgT, sgR, vsX], (fun j _ _ _ h => h)⟩⟩
      obtain ⟨⟨c0, c3⟩, ⟨d0, d1, d2, d3⟩, f0, f1, f2, f3⟩ := HS.out u hu
      rw [← hV]
      simp only [sgV]
      simp only [frR, dstAt, List.getElem?_toArray, List.getElem?_cons_zero, List.getElem?_cons_succ, Option.bind_some, Act.put, List.setIfInBounds_toArray, List.set_cons_zero, List.set_cons_succ]; go_simp; first | done | exact rfl
    · refine ⟨_, rfl, fun u hu hd => .inl ⟨V 9, u, ?_, hu, by simp [sgT, sgR, vsX], (fun j _ _ _ h => h)⟩⟩
      have e8 : vs 8 = V 8 := hd 8 (by kernel_rfl)
      rw [← hV] at e8
      simp only [sgV] at e8
      obtain ⟨⟨c0, c3⟩, ⟨d0, d1, d2, d3⟩, f0, f1, f2, f3⟩ := HS.out u hu
      rw [← hV]
      simp only [sgV]
      simp only [frR, dstAt, List.getElem?_toArray, List.getElem?_cons_zero, List.getElem?_cons_succ, Option.bind_some, Act.put, List.setIfInBounds_toArray, List.set_cons_zero, List.set_cons_succ]; simp only [e8]; go_simp; first | done | exact rfl
    · refine ⟨_, rfl, fun u hu hd => .inl ⟨V 10, u, ?_, hu, by simp [sgT, sgR, vsX], (fun j _ _ _ h => h)⟩⟩
      have e9 : vs 9 = V 9 := hd 9 (by kernel_rfl)
      rw [← hV] at e9
      simp only [sgV] at e9
      obtain ⟨⟨c0, c3⟩, ⟨d0, d1, d2, d3⟩, f0, f1, f2, f3⟩ := HS.out u hu
      rw [← hV]
      simp only [sgV]
      simp only [frR, dstAt, List.getElem?_toArray, List.getElem?_cons_zero, List.getElem?_cons_succ, Option.bind_some, Act.put, List.setIfInBounds_toArray, List.set_cons_zero, List.set_cons_succ]; simp only [e9]; go_simp; first | done | exact rfl
    · refine ⟨_, rfl, fun u hu hd => ?_⟩
      obtain ⟨g, e7, hc⟩ : ∃ g, vs 7 = .slice (some ⟨g, 0, none⟩) 5 5 ∧ u.cell? ⟨g, 2, none⟩ = some (.string ⟨#[42]⟩) := hd 7 (by kernel_rfl)
      have e10 : vs 10 = V 10 := hd 10 (by kernel_rfl)
      have e10' : vs 10 = .int .i64 2 := by rw [e10, ← hV]; rfl
      refine .inl ⟨.pointer (some ⟨g, 2, none⟩), u, ?_, hu, ⟨g, by simp [vsX], hc⟩, (fun j _ _ _ h => h)⟩
      simp only [frR, dstAt, List.getElem?_toArray, List.getElem?_cons_zero, List.getElem?_cons_succ, Option.bind_some, Act.put, List.setIfInBounds_toArray, List.set_cons_zero, List.set_cons_succ]; simp only [e7, e10']; go_simp; first | done | exact rfl
    · refine ⟨_, rfl, fun u hu hd => ?_⟩
      obtain ⟨g, e11, hc⟩ : ∃ g, vs 11 = .pointer (some ⟨g, 2, none⟩) ∧ u.cell? ⟨g, 2, none⟩ = some (.string ⟨#[42]⟩) := hd 11 (by kernel_rfl)
      refine .inl ⟨.string ⟨#[42]⟩, u, ?_, hu, by rw [← hV]; simp [sgT, sgR, sgV, vsX], (fun j _ _ _ h => h)⟩
      simp only [frR, dstAt, List.getElem?_toArray, List.getElem?_cons_zero, List.getElem?_cons_succ, Option.bind_some, Act.put, List.setIfInBounds_toArray, List.set_cons_zero, List.set_cons_succ]; simp only [e11]; go_simp; first | done | exact rfl
    · refine ⟨_, rfl, fun u hu hd => .inl ⟨V 13, u, ?_, hu, by simp [sgT, sgR, vsX], (fun j _ _ _ h => h)⟩⟩
      have e6 : vs 6 = V 6 := hd 6 (by kernel_rfl)
      rw [← hV] at e6
      simp only [sgV] at e6
      have e12 : vs 12 = V 12 := hd 12 (by kernel_rfl)
      rw [← hV] at e12
      simp only [sgV] at e12
      obtain ⟨⟨c0, c3⟩, ⟨d0, d1, d2, d3⟩, f0, f1, f2, f3⟩ := HS.out u hu
      rw [← hV]
      simp only [sgV]
      simp only [frR, dstAt, List.getElem?_toArray, List.getElem?_cons_zero, List.getElem?_cons_succ, Option.bind_some, Act.put, List.setIfInBounds_toArray, List.set_cons_zero, List.set_cons_succ]; simp only [e6, e12]; go_simp; first | done | exact rfl
    · refine ⟨_, rfl, fun u hu hd => .inl ⟨V 14, u, ?_, hu, by simp [sgT, sgR, vsX], (fun j _ _ _ h => h)⟩⟩
      have e13 : vs 13 = V 13 := hd 13 (by kernel_rfl)
      rw [← hV] at e13
      simp only [sgV] at e13
      obtain ⟨⟨c0, c3⟩, ⟨d0, d1, d2, d3⟩, f0, f1, f2, f3⟩ := HS.out u hu
      rw [← hV]
      simp only [sgV]
      simp only [frR, dstAt, List.getElem?_toArray, List.getElem?_cons_zero, List.getElem?_cons_succ, Option.bind_some, Act.put, List.setIfInBounds_toArray, List.set_cons_zero, List.set_cons_succ]; simp only [e13]; go_simp; first | done | exact rfl
    · refine ⟨_, rfl, fun u hu hd => .inl ⟨V 15, u, ?_, hu, by simp [sgT, sgR, vsX], (fun j _ _ _ h => h)⟩⟩
      obtain ⟨⟨c0, c3⟩, ⟨d0, d1, d2, d3⟩, f0, f1, f2, f3⟩ := HS.out u hu
      rw [← hV]
      simp only [sgV]
      simp only [frR, dstAt, List.getElem?_toArray, List.getElem?_cons_zero, List.getElem?_cons_succ, Option.bind_some, Act.put, List.setIfInBounds_toArray, List.set_cons_zero, List.set_cons_succ]; go_simp; first | done | exact rfl
    · refine ⟨_, rfl, fun u hu hd => .inl ⟨V 16, u, ?_, hu, by simp [sgT, sgR, vsX], (fun j _ _ _ h => h)⟩⟩
      have e15 : vs 15 = V 15 := hd 15 (by kernel_rfl)
      rw [← hV] at e15
      simp only [sgV] at e15
      obtain ⟨⟨c0, c3⟩, ⟨d0, d1, d2, d3⟩, f0, f1, f2, f3⟩ := HS.out u hu
      rw [← hV]
      simp only [sgV]
      simp only [frR, dstAt, List.getElem?_toArray, List.getElem?_cons_zero, List.getElem?_cons_succ, Option.bind_some, Act.put, List.setIfInBounds_toArray, List.set_cons_zero, List.set_cons_succ]; simp only [e15]; go_simp; first | done | exact rfl
    · refine ⟨_, rfl, fun u hu hd => .inl ⟨V 17, u, ?_, hu, by simp [sgT, sgR, vsX], (fun j _ _ _ h => h)⟩⟩
      have e16 : vs 16 = V 16 := hd 16 (by kernel_rfl)
      rw [← hV] at e16
      simp only [sgV] at e16
      obtain ⟨⟨c0, c3⟩, ⟨d0, d1, d2, d3⟩, f0, f1, f2, f3⟩ := HS.out u hu
      rw [← hV]
      simp only [sgV]
      simp only [frR, dstAt, List.getElem?_toArray, List.getElem?_cons_zero, List.getElem?_cons_succ, Option.bind_some, Act.put, List.setIfInBounds_toArray, List.set_cons_zero, List.set_cons_succ]; simp only [e16]; go_simp; first | done | exact rfl
    · refine ⟨_, rfl, fun u hu hd => .inl ⟨V 18, u, ?_, hu, by simp [sgT, sgR, vsX], (fun j _ _ _ h => h)⟩⟩
      have e17 : vs 17 = V 17 := hd 17 (by kernel_rfl)
      rw [← hV] at e17
      simp only [sgV] at e17
      obtain ⟨⟨c0, c3⟩, ⟨d0, d1, d2, d3⟩, f0, f1, f2, f3⟩ := HS.out u hu
      rw [← hV]
      simp only [sgV]
      simp only [frR, dstAt, List.getElem?_toArray, List.getElem?_cons_zero, List.getElem?_cons_succ, Option.bind_some, Act.put, List.setIfInBounds_toArray, List.set_cons_zero, List.set_cons_succ]; simp only [e17]; go_simp; first | done | exact rfl
    · refine ⟨_, rfl, fun u hu hd => .inr (.inl ⟨31, #[V 18], ?_, ?_⟩)⟩
      · have e18 : vs 18 = V 18 := hd 18 (by kernel_rfl)
        simp only [frR, dstAt, List.getElem?_toArray, List.getElem?_cons_zero, List.getElem?_cons_succ, Option.bind_some, Act.put, List.setIfInBounds_toArray, List.set_cons_zero, List.set_cons_succ]; simp only [e18]; go_simp; first | done | exact rfl
      · rw [← hV]
        refine (HC2.out u (kd.trans hu)).mono ?_
        rintro e w2 ⟨rfl, hk2⟩
        exact ⟨_, rfl, hu.trans hk2, by simp [sgT, sgR, sgV, vsX], (fun j _ _ _ h => sgR_kept hk2 j vs h)⟩
    · refine ⟨_, rfl, fun u hu hd => .inl ⟨V 20, u, ?_, hu, by simp [sgT, sgR, vsX], (fun j _ _ _ h => h)⟩⟩
      have e14 : vs 14 = V 14 := hd 14 (by kernel_rfl)
      rw [← hV] at e14
      simp only [sgV] at e14
      have e19 : vs 19 = V 19 := hd 19 (by kernel_rfl)
      rw [← hV] at e19
      simp only [sgV] at e19
      obtain ⟨⟨c0, c3⟩, ⟨d0, d1, d2, d3⟩, f0, f1, f2, f3⟩ := HS.out u hu
      rw [← hV]
      simp only [sgV]
      simp only [frR, dstAt, List.getElem?_toArray, List.getElem?_cons_zero, List.getElem?_cons_succ, Option.bind_some, Act.put, List.setIfInBounds_toArray, List.set_cons_zero, List.set_cons_succ]; simp only [e14, e19]; go_simp; first | done | exact rfl
    · refine ⟨_, rfl, fun u hu hd => .inl ⟨V 21, u, ?_, hu, by simp [sgT, sgR, vsX], (fun j _ _ _ h => h)⟩⟩
      have e20 : vs 20 = V 20 := hd 20 (by kernel_rfl)
      rw [← hV] at e20
      simp only [sgV] at e20
      obtain ⟨⟨c0, c3⟩, ⟨d0, d1, d2, d3⟩, f0, f1, f2, f3⟩ := HS.out u hu
      rw [← hV]
      simp only [sgV]
      simp only [frR, dstAt, List.getElem?_toArray, List.getElem?_cons_zero, List.getElem?_cons_succ, Option.bind_some, Act.put, List.setIfInBounds_toArray, List.set_cons_zero, List.set_cons_succ]; simp only [e20]; go_simp; first | done | exact rfl
  · intro vs u hu
    simp only [List.drop_succ_cons, List.drop_zero, seqWp]
    simp only [frR, dstAt, List.getElem?_toArray, List.getElem?_cons_zero, List.getElem?_cons_succ, Option.bind_some, Act.put, List.setIfInBounds_toArray, List.set_cons_zero, List.set_cons_succ]
    intro hR
    have e21 : vs 21 = V 21 := hR 21 (by decide) (fun _ _ => by trivial)
    rw [← hV] at e21
    simp only [sgV] at e21
    simp only [e21]
    have hu : Kept W.drew u := hu
    go_wp2_with fail
    go_ret
    exact ⟨by rw [HW.out]; rfl, k0.trans (kd.trans hu)⟩
set_option maxHeartbeats 16000000 in
set_option maxRecDepth 100000 in
theorem ex13_22 (m : Nat) (H : TxEx m) (s : ByteArray) (n : Int) (x y : Nd) (hx0 : x.size ≤ m) (hx2 : x.size ≤ 200) (hxb : x.bulk ≤ 1048576) (hy0 : y.size ≤ m) (hy2 : y.size ≤ 200) (hyb : y.bulk ≤ 1048576) (hox : okT x = true) (hoy : okT y = true) (hsx : st x.op = 3) (hsy : st y.op = 3) (w : World) (base : Nat) (v : Value) (hv : NdV w base (.mk 22 s n [x, y]) v) :
    Calls Tryz.prog 31 #[v] w fun e w' => e = .returned (.string (wT (.mk 22 s n [x, y]))) ∧ Kept w w' := by
  rw [NdV] at hv
  obtain ⟨ao, cap, rfl, hml, hks⟩ := hv
  simp only [List.length_cons, List.length_nil, Nat.zero_add, Nat.reduceAdd]
  have b0 := Cells.new w 29 #[.int .i64 22, .string s, .int .i64 n, .slice ao 2 cap]
  have k0 : Kept w (w.alloc (.cells #[.int .i64 22, .string s, .int .i64 n, .slice ao 2 cap] 29)) := Kept.alloc (Below.refl _ _) _
  obtain ⟨b, off, a2, cq, rfl, g0, g1, g2, g3, hvx⟩ := kid_0 hks k0 (x := x) rfl
  obtain ⟨b', off', a3, cr, eb, h0, h1, h2, h3, hvy⟩ := kid_1 hks k0 (x := y) rfl
  simp at eb
  obtain ⟨rfl, rfl⟩ := eb
  have hE1 := wT_small hox hx2 hxb
  have hE2 := wT_small hoy hy2 hyb
  have HW : Hid (wT (.mk 22 s n [x, y]) = (((((⟨#[40]⟩ ++ wT x) ++ ⟨#[32]⟩) ++ ⟨#[60]⟩) ++ ⟨#[32]⟩) ++ wT y) ++ ⟨#[41]⟩) := by rw [Hid, wT]; rfl
  have hC1 := fun u (hu : Kept (w.alloc (.cells #[.int .i64 22, .string s, .int .i64 n, .slice (some ⟨b, off, none⟩) 2 cap] 29)) u) => H x hx0 hx2 hxb hox hsx u base _ (hvx.kept hu)
  have hC2 := fun u (hu : Kept (w.alloc (.cells #[.int .i64 22, .string s, .int .i64 n, .slice (some ⟨b, off, none⟩) 2 cap] 29)) u) => H y hy0 hy2 hyb hoy hsy u base _ (hvy.kept hu)
  obtain ⟨E1, hE⟩ : ∃ E, wT x = E := ⟨_, rfl⟩
  rw [hE] at hC1 hE1 HW
  obtain ⟨E2, hE'⟩ : ∃ E, wT y = E := ⟨_, rfl⟩
  rw [hE'] at hC2 hE2 HW
  obtain ⟨xo, exo⟩ : ∃ o, x.op = o := ⟨_, rfl⟩
  obtain ⟨xs, exs⟩ : ∃ o, x.s = o := ⟨_, rfl⟩
  obtain ⟨xn, exn⟩ : ∃ o, x.n = o := ⟨_, rfl⟩
  obtain ⟨xl, exl⟩ : ∃ o, x.kids.length = o := ⟨_, rfl⟩
  rw [exo, exs, exn, exl] at hC1
  rw [exo] at g0
  rw [exs] at g1
  rw [exn] at g2
  rw [exl] at g3
  obtain ⟨yo, eyo⟩ : ∃ o, y.op = o := ⟨_, rfl⟩
  obtain ⟨ys, eys⟩ : ∃ o, y.s = o := ⟨_, rfl⟩
  obtain ⟨yn, eyn⟩ : ∃ o, y.n = o := ⟨_, rfl⟩
  obtain ⟨yl, eyl⟩ : ∃ o, y.kids.length = o := ⟨_, rfl⟩
  rw [eyo, eys, eyn, eyl] at hC2
  rw [eyo] at h0
  rw [eys] at h1
  rw [eyn] at h2
  rw [eyl] at h3
  have HC1 : Hid _ := hC1
  have HC2 : Hid _ := hC2
  clear hC1 hC2 hks hml hE hE' hox hoy hsx hsy hvx hvy H exo exs exn exl eyo eys eyn eyl hx0 hx2 hxb hy0 hy2 hyb
  go_enter Tryz.func31, Tryz.ntmps31
  go_wp2_with fail
  obtain ⟨W, hW⟩ : ∃ W, w.alloc (.cells #[.int .i64 22, .string s, .int .i64 n, .slice (some ⟨b, off, none⟩) 2 cap] 29) = W := ⟨_, rfl⟩
  rw [hW] at b0 k0 g0 g1 g2 g3 h0 h1 h2 h3 HC1 HC2
  simp only [hW]
  clear hW
  have kd : Kept W W.drew := (Below.refl _ _).drew
  have HS : Hid (∀ u, Kept W.drew u → (u.cell? ⟨w.heap.size, 0, none⟩ = some (.int .i64 22) ∧ u.cell? ⟨w.heap.size, 3, none⟩ = some (.slice (some ⟨b, off, none⟩) 2 cap)) ∧ (u.cell? ⟨b, off, none⟩ = some (.int .i64 xo) ∧ u.cell? ⟨b, off + 1, none⟩ = some (.string xs) ∧ u.cell? ⟨b, off + 2, none⟩ = some (.int .i64 xn) ∧ u.cell? ⟨b, off + 3, none⟩ = some (.slice a2 xl cq)) ∧ (u.cell? ⟨b, off + 4, none⟩ = some (.int .i64 yo) ∧ u.cell? ⟨b, off + 4 + 1, none⟩ = some (.string ys) ∧ u.cell? ⟨b, off + 4 + 2, none⟩ = some (.int .i64 yn) ∧ u.cell? ⟨b, off + 4 + 3, none⟩ = some (.slice a3 yl cr))) := fun u hu => ⟨⟨(b0.kept (kd.trans hu)).cell 0, (b0.kept (kd.trans hu)).cell 3⟩, ⟨kept_cell (kd.trans hu) g0, kept_cell (kd.trans hu) g1, kept_cell (kd.trans hu) g2, kept_cell (kd.trans hu) g3⟩, kept_cell (kd.trans hu) h0, kept_cell (kd.trans hu) h1, kept_cell (kd.trans hu) h2, kept_cell (kd.trans hu) h3⟩
  have p0 : ¬ 9223372036854775807 < 1 + E1.size := by omega
  have p1 : ¬ 9223372036854775807 < 1 + E1.size + 1 := by omega
  have p2 : ¬ 9223372036854775807 < 1 + E1.size + 1 + 1 := by omega
  have p3 : ¬ 9223372036854775807 < 1 + E1.size + 1 + 1 + 1 := by omega
  have p4 : ¬ 9223372036854775807 < 1 + E1.size + 1 + 1 + 1 + E2.size := by omega
  have p5 : ¬ 9223372036854775807 < 1 + E1.size + 1 + 1 + 1 + E2.size + 1 := by omega
  obtain ⟨V, hV⟩ : ∃ V, sgV w.heap.size b off cap (.agg #[.int .i64 xo, .string xs, .int .i64 xn, .slice a2 xl cq]) (.agg #[.int .i64 yo, .string ys, .int .i64 yn, .slice a3 yl cr]) E1 E2 ⟨#[60]⟩ 22 3 = V := ⟨_, rfl⟩
  refine wp_region_told 22 (sgT W.drew V 3 ⟨#[60]⟩) (fun _ _ => false) (by kernel_rfl) (by kernel_rfl) (by decide) (by kernel_rfl) (by kernel_rfl) (sgT_own _ _ _ _) (Below.refl _ _) ?_ ?_
  · intro i hi vs
    rcases (show i = 0 ∨ i = 1 ∨ i = 2 ∨ i = 3 ∨ i = 4 ∨ i = 5 ∨ i = 6 ∨ i = 7 ∨ i = 8 ∨ i = 9 ∨ i = 10 ∨ i = 11 ∨ i = 12 ∨ i = 13 ∨ i = 14 ∨ i = 15 ∨ i = 16 ∨ i = 17 ∨ i = 18 ∨ i = 19 ∨ i = 20 ∨ i = 21 by omega) with rfl | rfl | rfl | rfl | rfl | rfl | rfl | rfl | rfl | rfl | rfl | rfl | rfl | rfl | rfl | rfl | rfl | rfl | rfl | rfl | rfl | rfl
    · refine ⟨_, rfl, fun u hu hd => .inl ⟨V 0, u, ?_, hu, by simp [sgT, sgR, vsX], (fun j _ _ _ h => h)⟩⟩
      obtain ⟨⟨c0, c3⟩, ⟨d0, d1, d2, d3⟩, f0, f1, f2, f3⟩ := HS.out u hu
      rw [← hV]
      simp only [sgV]
      simp only [frR, dstAt, List.getElem?_toArray, List.getElem?_cons_zero, List.getElem?_cons_succ, Option.bind_some, Act.put, List.setIfInBounds_toArray, List.set_cons_zero, List.set_cons_succ]; go_simp; first | done | exact rfl
    · refine ⟨_, rfl, fun u hu hd => .inl ⟨V 1, u, ?_, hu, by simp [sgT, sgR, vsX], (fun j _ _ _ h => h)⟩⟩
      have e0 : vs 0 = V 0 := hd 0 (by kernel_rfl)
      rw [← hV] at e0
      simp only [sgV] at e0
      obtain ⟨⟨c0, c3⟩, ⟨d0, d1, d2, d3⟩, f0, f1, f2, f3⟩ := HS.out u hu
      rw [← hV]
      simp only [sgV]
      simp only [frR, dstAt, List.getElem?_toArray, List.getElem?_cons_zero, List.getElem?_cons_succ, Option.bind_some, Act.put, List.setIfInBounds_toArray, List.set_cons_zero, List.set_cons_succ]; simp only [e0]; go_simp; first | done | exact rfl
    · refine ⟨_, rfl, fun u hu hd => .inl ⟨V 2, u, ?_, hu, by simp [sgT, sgR, vsX], (fun j _ _ _ h => h)⟩⟩
      have e1 : vs 1 = V 1 := hd 1 (by kernel_rfl)
      rw [← hV] at e1
      simp only [sgV] at e1
      obtain ⟨⟨c0, c3⟩, ⟨d0, d1, d2, d3⟩, f0, f1, f2, f3⟩ := HS.out u hu
      rw [← hV]
      simp only [sgV]
      simp only [frR, dstAt, List.getElem?_toArray, List.getElem?_cons_zero, List.getElem?_cons_succ, Option.bind_some, Act.put, List.setIfInBounds_toArray, List.set_cons_zero, List.set_cons_succ]; simp only [e1]; go_simp; first | done | exact rfl
    · refine ⟨_, rfl, fun u hu hd => .inl ⟨V 3, u, ?_, hu, by simp [sgT, sgR, vsX], (fun j _ _ _ h => h)⟩⟩
      have e2 : vs 2 = V 2 := hd 2 (by kernel_rfl)
      rw [← hV] at e2
      simp only [sgV] at e2
      obtain ⟨⟨c0, c3⟩, ⟨d0, d1, d2, d3⟩, f0, f1, f2, f3⟩ := HS.out u hu
      rw [← hV]
      simp only [sgV]
      simp only [frR, dstAt, List.getElem?_toArray, List.getElem?_cons_zero, List.getElem?_cons_succ, Option.bind_some, Act.put, List.setIfInBounds_toArray, List.set_cons_zero, List.set_cons_succ]; simp only [e2]; go_simp; first | done | exact rfl
    · refine ⟨_, rfl, fun u hu hd => .inr (.inl ⟨31, #[V 3], ?_, ?_⟩)⟩
      · have e3 : vs 3 = V 3 := hd 3 (by kernel_rfl)
        simp only [frR, dstAt, List.getElem?_toArray, List.getElem?_cons_zero, List.getElem?_cons_succ, Option.bind_some, Act.put, List.setIfInBounds_toArray, List.set_cons_zero, List.set_cons_succ]; simp only [e3]; go_simp; first | done | exact rfl
      · rw [← hV]
        refine (HC1.out u (kd.trans hu)).mono ?_
        rintro e w2 ⟨rfl, hk2⟩
        exact ⟨_, rfl, hu.trans hk2, by simp [sgT, sgR, sgV, vsX], (fun j _ _ _ h => sgR_kept hk2 j vs h)⟩
    · refine ⟨_, rfl, fun u hu hd => .inl ⟨V 5, u, ?_, hu, by simp [sgT, sgR, vsX], (fun j _ _ _ h => h)⟩⟩
      have e4 : vs 4 = V 4 := hd 4 (by kernel_rfl)
      rw [← hV] at e4
      simp only [sgV] at e4
      obtain ⟨⟨c0, c3⟩, ⟨d0, d1, d2, d3⟩, f0, f1, f2, f3⟩ := HS.out u hu
      rw [← hV]
      simp only [sgV]
      simp only [frR, dstAt, List.getElem?_toArray, List.getElem?_cons_zero, List.getElem?_cons_succ, Option.bind_some, Act.put, List.setIfInBounds_toArray, List.set_cons_zero, List.set_cons_succ]; simp only [e4]; go_simp; first | done | exact rfl
    · refine ⟨_, rfl, fun u hu hd => .inl ⟨V 6, u, ?_, hu, by simp [sgT, sgR, vsX], (fun j _ _ _ h => h)⟩⟩
      have e5 : vs 5 = V 5 := hd 5 (by kernel_rfl)
      rw [← hV] at e5
      simp only [sgV] at e5
      obtain ⟨⟨c0, c3⟩, ⟨d0, d1, d2, d3⟩, f0, f1, f2, f3⟩ := HS.out u hu
      rw [← hV]
      simp only [sgV]
      simp only [frR, dstAt, List.getElem?_toArray, List.getElem?_cons_zero, List.getElem?_cons_succ, Option.bind_some, Act.put, List.setIfInBounds_toArray, List.set_cons_zero, List.set_cons_succ]; simp only [e5]; go_simp; first | done | exact rfl
    · refine ⟨_, rfl, fun u hu hd => .inr (.inl ⟨51, #[], ?_, ?_⟩)⟩
      · simp only [frR, dstAt, List.getElem?_toArray, List.getElem?_cons_zero, List.getElem?_cons_succ, Option.bind_some, Act.put, List.setIfInBounds_toArray, List.set_cons_zero, List.set_cons_succ]; go_simp; first | done | exact rfl
      · refine (l13Signs_ok u).mono ?_
        rintro e w2 ⟨g, rfl, hk2, s0, s1, s2, s3, s4⟩
        exact ⟨_, rfl, hu.trans hk2, ⟨g, by simp [vsX], s3⟩, (fun j _ _ _ h => sgR_kept hk2 j vs h)⟩
    · refine ⟨_, rfl, fun u hu hd => .inl ⟨V 8, u, ?_, hu, by simp [sgT, sgR, vsX], (fun j _ _ _ h => h)⟩⟩
      obtain ⟨⟨c0, c3⟩, ⟨d0, d1, d2, d3⟩, f0, f1, f2, f3⟩ := HS.out u hu
      rw [← hV]
      simp only [sgV]
      simp only [frR, dstAt, List.getElem?_toArray, List.getElem?_cons_zero, List.getElem?_cons_succ, Option.bind_some, Act.put, List.setIfInBounds_toArray, List.set_cons_zero, List.set_cons_succ]; go_simp; first | done | exact rfl
    · refine ⟨_, rfl, fun u hu hd => .inl ⟨V 9, u, ?_, hu, by simp [sgT, sgR, vsX], (fun j _ _ _ h => h)⟩⟩
      have e8 : vs 8 = V 8 := hd 8 (by kernel_rfl)
      rw [← hV] at e8
      simp only [sgV] at e8
      obtain ⟨⟨c0, c3⟩, ⟨d0, d1, d2, d3⟩, f0, f1, f2, f3⟩ := HS.out u hu
      rw [← hV]
      simp only [sgV]
      simp only [frR, dstAt, List.getElem?_toArray, List.getElem?_cons_zero, List.getElem?_cons_succ, Option.bind_some, Act.put, List.setIfInBounds_toArray, List.set_cons_zero, List.set_cons_succ]; simp only [e8]; go_simp; first | done | exact rfl
    · refine ⟨_, rfl, fun u hu hd => .inl ⟨V 10, u, ?_, hu, by simp [sgT, sgR, vsX], (fun j _ _ _ h => h)⟩⟩
      have e9 : vs 9 = V 9 := hd 9 (by kernel_rfl)
      rw [← hV] at e9
      simp only [sgV] at e9
      obtain ⟨⟨c0, c3⟩, ⟨d0, d1, d2, d3⟩, f0, f1, f2, f3⟩ := HS.out u hu
      rw [← hV]
      simp only [sgV]
      simp only [frR, dstAt, List.getElem?_toArray, List.getElem?_cons_zero, List.getElem?_cons_succ, Option.bind_some, Act.put, List.setIfInBounds_toArray, List.set_cons_zero, List.set_cons_succ]; simp only [e9]; go_simp; first | done | exact rfl
    · refine ⟨_, rfl, fun u hu hd => ?_⟩
      obtain ⟨g, e7, hc⟩ : ∃ g, vs 7 = .slice (some ⟨g, 0, none⟩) 5 5 ∧ u.cell? ⟨g, 3, none⟩ = some (.string ⟨#[60]⟩) := hd 7 (by kernel_rfl)
      have e10 : vs 10 = V 10 := hd 10 (by kernel_rfl)
      have e10' : vs 10 = .int .i64 3 := by rw [e10, ← hV]; rfl
      refine .inl ⟨.pointer (some ⟨g, 3, none⟩), u, ?_, hu, ⟨g, by simp [vsX], hc⟩, (fun j _ _ _ h => h)⟩
      simp only [frR, dstAt, List.getElem?_toArray, List.getElem?_cons_zero, List.getElem?_cons_succ, Option.bind_some, Act.put, List.setIfInBounds_toArray, List.set_cons_zero, List.set_cons_succ]; simp only [e7, e10']; go_simp; first | done | exact rfl
    · refine ⟨_, rfl, fun u hu hd => ?_⟩
      obtain ⟨g, e11, hc⟩ : ∃ g, vs 11 = .pointer (some ⟨g, 3, none⟩) ∧ u.cell? ⟨g, 3, none⟩ = some (.string ⟨#[60]⟩) := hd 11 (by kernel_rfl)
      refine .inl ⟨.string ⟨#[60]⟩, u, ?_, hu, by rw [← hV]; simp [sgT, sgR, sgV, vsX], (fun j _ _ _ h => h)⟩
      simp only [frR, dstAt, List.getElem?_toArray, List.getElem?_cons_zero, List.getElem?_cons_succ, Option.bind_some, Act.put, List.setIfInBounds_toArray, List.set_cons_zero, List.set_cons_succ]; simp only [e11]; go_simp; first | done | exact rfl
    · refine ⟨_, rfl, fun u hu hd => .inl ⟨V 13, u, ?_, hu, by simp [sgT, sgR, vsX], (fun j _ _ _ h => h)⟩⟩
      have e6 : vs 6 = V 6 := hd 6 (by kernel_rfl)
      rw [← hV] at e6
      simp only [sgV] at e6
      have e12 : vs 12 = V 12 := hd 12 (by kernel_rfl)
      rw [← hV] at e12
      simp only [sgV] at e12
      obtain ⟨⟨c0, c3⟩, ⟨d0, d1, d2, d3⟩, f0, f1, f2, f3⟩ := HS.out u hu
      rw [← hV]
      simp only [sgV]
      simp only [frR, dstAt, List.getElem?_toArray, List.getElem?_cons_zero, List.getElem?_cons_succ, Option.bind_some, Act.put, List.setIfInBounds_toArray, List.set_cons_zero, List.set_cons_succ]; simp only [e6, e12]; go_simp; first | done | exact rfl
    · refine ⟨_, rfl, fun u hu hd => .inl ⟨V 14, u, ?_, hu, by simp [sgT, sgR, vsX], (fun j _ _ _ h => h)⟩⟩
      have e13 : vs 13 = V 13 := hd 13 (by kernel_rfl)
      rw [← hV] at e13
      simp only [sgV] at e13
      obtain ⟨⟨c0, c3⟩, ⟨d0, d1, d2, d3⟩, f0, f1, f2, f3⟩ := HS.out u hu
      rw [← hV]
      simp only [sgV]
      simp only [frR, dstAt, List.getElem?_toArray, List.getElem?_cons_zero, List.getElem?_cons_succ, Option.bind_some, Act.put, List.setIfInBounds_toArray, List.set_cons_zero, List.set_cons_succ]; simp only [e13]; go_simp; first | done | exact rfl
    · refine ⟨_, rfl, fun u hu hd => .inl ⟨V 15, u, ?_, hu, by simp [sgT, sgR, vsX], (fun j _ _ _ h => h)⟩⟩
      obtain ⟨⟨c0, c3⟩, ⟨d0, d1, d2, d3⟩, f0, f1, f2, f3⟩ := HS.out u hu
      rw [← hV]
      simp only [sgV]
      simp only [frR, dstAt, List.getElem?_toArray, List.getElem?_cons_zero, List.getElem?_cons_succ, Option.bind_some, Act.put, List.setIfInBounds_toArray, List.set_cons_zero, List.set_cons_succ]; go_simp; first | done | exact rfl
    · refine ⟨_, rfl, fun u hu hd => .inl ⟨V 16, u, ?_, hu, by simp [sgT, sgR, vsX], (fun j _ _ _ h => h)⟩⟩
      have e15 : vs 15 = V 15 := hd 15 (by kernel_rfl)
      rw [← hV] at e15
      simp only [sgV] at e15
      obtain ⟨⟨c0, c3⟩, ⟨d0, d1, d2, d3⟩, f0, f1, f2, f3⟩ := HS.out u hu
      rw [← hV]
      simp only [sgV]
      simp only [frR, dstAt, List.getElem?_toArray, List.getElem?_cons_zero, List.getElem?_cons_succ, Option.bind_some, Act.put, List.setIfInBounds_toArray, List.set_cons_zero, List.set_cons_succ]; simp only [e15]; go_simp; first | done | exact rfl
    · refine ⟨_, rfl, fun u hu hd => .inl ⟨V 17, u, ?_, hu, by simp [sgT, sgR, vsX], (fun j _ _ _ h => h)⟩⟩
      have e16 : vs 16 = V 16 := hd 16 (by kernel_rfl)
      rw [← hV] at e16
      simp only [sgV] at e16
      obtain ⟨⟨c0, c3⟩, ⟨d0, d1, d2, d3⟩, f0, f1, f2, f3⟩ := HS.out u hu
      rw [← hV]
      simp only [sgV]
      simp only [frR, dstAt, List.getElem?_toArray, List.getElem?_cons_zero, List.getElem?_cons_succ, Option.bind_some, Act.put, List.setIfInBounds_toArray, List.set_cons_zero, List.set_cons_succ]; simp only [e16]; go_simp; first | done | exact rfl
    · refine ⟨_, rfl, fun u hu hd => .inl ⟨V 18, u, ?_, hu, by simp [sgT, sgR, vsX], (fun j _ _ _ h => h)⟩⟩
      have e17 : vs 17 = V 17 := hd 17 (by kernel_rfl)
      rw [← hV] at e17
      simp only [sgV] at e17
      obtain ⟨⟨c0, c3⟩, ⟨d0, d1, d2, d3⟩, f0, f1, f2, f3⟩ := HS.out u hu
      rw [← hV]
      simp only [sgV]
      simp only [frR, dstAt, List.getElem?_toArray, List.getElem?_cons_zero, List.getElem?_cons_succ, Option.bind_some, Act.put, List.setIfInBounds_toArray, List.set_cons_zero, List.set_cons_succ]; simp only [e17]; go_simp; first | done | exact rfl
    · refine ⟨_, rfl, fun u hu hd => .inr (.inl ⟨31, #[V 18], ?_, ?_⟩)⟩
      · have e18 : vs 18 = V 18 := hd 18 (by kernel_rfl)
        simp only [frR, dstAt, List.getElem?_toArray, List.getElem?_cons_zero, List.getElem?_cons_succ, Option.bind_some, Act.put, List.setIfInBounds_toArray, List.set_cons_zero, List.set_cons_succ]; simp only [e18]; go_simp; first | done | exact rfl
      · rw [← hV]
        refine (HC2.out u (kd.trans hu)).mono ?_
        rintro e w2 ⟨rfl, hk2⟩
        exact ⟨_, rfl, hu.trans hk2, by simp [sgT, sgR, sgV, vsX], (fun j _ _ _ h => sgR_kept hk2 j vs h)⟩
    · refine ⟨_, rfl, fun u hu hd => .inl ⟨V 20, u, ?_, hu, by simp [sgT, sgR, vsX], (fun j _ _ _ h => h)⟩⟩
      have e14 : vs 14 = V 14 := hd 14 (by kernel_rfl)
      rw [← hV] at e14
      simp only [sgV] at e14
      have e19 : vs 19 = V 19 := hd 19 (by kernel_rfl)
      rw [← hV] at e19
      simp only [sgV] at e19
      obtain ⟨⟨c0, c3⟩, ⟨d0, d1, d2, d3⟩, f0, f1, f2, f3⟩ := HS.out u hu
      rw [← hV]
      simp only [sgV]
      simp only [frR, dstAt, List.getElem?_toArray, List.getElem?_cons_zero, List.getElem?_cons_succ, Option.bind_some, Act.put, List.setIfInBounds_toArray, List.set_cons_zero, List.set_cons_succ]; simp only [e14, e19]; go_simp; first | done | exact rfl
    · refine ⟨_, rfl, fun u hu hd => .inl ⟨V 21, u, ?_, hu, by simp [sgT, sgR, vsX], (fun j _ _ _ h => h)⟩⟩
      have e20 : vs 20 = V 20 := hd 20 (by kernel_rfl)
      rw [← hV] at e20
      simp only [sgV] at e20
      obtain ⟨⟨c0, c3⟩, ⟨d0, d1, d2, d3⟩, f0, f1, f2, f3⟩ := HS.out u hu
      rw [← hV]
      simp only [sgV]
      simp only [frR, dstAt, List.getElem?_toArray, List.getElem?_cons_zero, List.getElem?_cons_succ, Option.bind_some, Act.put, List.setIfInBounds_toArray, List.set_cons_zero, List.set_cons_succ]; simp only [e20]; go_simp; first | done | exact rfl
  · intro vs u hu
    simp only [List.drop_succ_cons, List.drop_zero, seqWp]
    simp only [frR, dstAt, List.getElem?_toArray, List.getElem?_cons_zero, List.getElem?_cons_succ, Option.bind_some, Act.put, List.setIfInBounds_toArray, List.set_cons_zero, List.set_cons_succ]
    intro hR
    have e21 : vs 21 = V 21 := hR 21 (by decide) (fun _ _ => by trivial)
    rw [← hV] at e21
    simp only [sgV] at e21
    simp only [e21]
    have hu : Kept W.drew u := hu
    go_wp2_with fail
    go_ret
    exact ⟨by rw [HW.out]; rfl, k0.trans (kd.trans hu)⟩
set_option maxHeartbeats 16000000 in
set_option maxRecDepth 100000 in
theorem ex13_23 (m : Nat) (H : TxEx m) (s : ByteArray) (n : Int) (x y : Nd) (hx0 : x.size ≤ m) (hx2 : x.size ≤ 200) (hxb : x.bulk ≤ 1048576) (hy0 : y.size ≤ m) (hy2 : y.size ≤ 200) (hyb : y.bulk ≤ 1048576) (hox : okT x = true) (hoy : okT y = true) (hsx : st x.op = 3) (hsy : st y.op = 3) (w : World) (base : Nat) (v : Value) (hv : NdV w base (.mk 23 s n [x, y]) v) :
    Calls Tryz.prog 31 #[v] w fun e w' => e = .returned (.string (wT (.mk 23 s n [x, y]))) ∧ Kept w w' := by
  rw [NdV] at hv
  obtain ⟨ao, cap, rfl, hml, hks⟩ := hv
  simp only [List.length_cons, List.length_nil, Nat.zero_add, Nat.reduceAdd]
  have b0 := Cells.new w 29 #[.int .i64 23, .string s, .int .i64 n, .slice ao 2 cap]
  have k0 : Kept w (w.alloc (.cells #[.int .i64 23, .string s, .int .i64 n, .slice ao 2 cap] 29)) := Kept.alloc (Below.refl _ _) _
  obtain ⟨b, off, a2, cq, rfl, g0, g1, g2, g3, hvx⟩ := kid_0 hks k0 (x := x) rfl
  obtain ⟨b', off', a3, cr, eb, h0, h1, h2, h3, hvy⟩ := kid_1 hks k0 (x := y) rfl
  simp at eb
  obtain ⟨rfl, rfl⟩ := eb
  have hE1 := wT_small hox hx2 hxb
  have hE2 := wT_small hoy hy2 hyb
  have HW : Hid (wT (.mk 23 s n [x, y]) = (((((⟨#[40]⟩ ++ wT x) ++ ⟨#[32]⟩) ++ ⟨#[61, 61]⟩) ++ ⟨#[32]⟩) ++ wT y) ++ ⟨#[41]⟩) := by rw [Hid, wT]; rfl
  have hC1 := fun u (hu : Kept (w.alloc (.cells #[.int .i64 23, .string s, .int .i64 n, .slice (some ⟨b, off, none⟩) 2 cap] 29)) u) => H x hx0 hx2 hxb hox hsx u base _ (hvx.kept hu)
  have hC2 := fun u (hu : Kept (w.alloc (.cells #[.int .i64 23, .string s, .int .i64 n, .slice (some ⟨b, off, none⟩) 2 cap] 29)) u) => H y hy0 hy2 hyb hoy hsy u base _ (hvy.kept hu)
  obtain ⟨E1, hE⟩ : ∃ E, wT x = E := ⟨_, rfl⟩
  rw [hE] at hC1 hE1 HW
  obtain ⟨E2, hE'⟩ : ∃ E, wT y = E := ⟨_, rfl⟩
  rw [hE'] at hC2 hE2 HW
  obtain ⟨xo, exo⟩ : ∃ o, x.op = o := ⟨_, rfl⟩
  obtain ⟨xs, exs⟩ : ∃ o, x.s = o := ⟨_, rfl⟩
  obtain ⟨xn, exn⟩ : ∃ o, x.n = o := ⟨_, rfl⟩
  obtain ⟨xl, exl⟩ : ∃ o, x.kids.length = o := ⟨_, rfl⟩
  rw [exo, exs, exn, exl] at hC1
  rw [exo] at g0
  rw [exs] at g1
  rw [exn] at g2
  rw [exl] at g3
  obtain ⟨yo, eyo⟩ : ∃ o, y.op = o := ⟨_, rfl⟩
  obtain ⟨ys, eys⟩ : ∃ o, y.s = o := ⟨_, rfl⟩
  obtain ⟨yn, eyn⟩ : ∃ o, y.n = o := ⟨_, rfl⟩
  obtain ⟨yl, eyl⟩ : ∃ o, y.kids.length = o := ⟨_, rfl⟩
  rw [eyo, eys, eyn, eyl] at hC2
  rw [eyo] at h0
  rw [eys] at h1
  rw [eyn] at h2
  rw [eyl] at h3
  have HC1 : Hid _ := hC1
  have HC2 : Hid _ := hC2
  clear hC1 hC2 hks hml hE hE' hox hoy hsx hsy hvx hvy H exo exs exn exl eyo eys eyn eyl hx0 hx2 hxb hy0 hy2 hyb
  go_enter Tryz.func31, Tryz.ntmps31
  go_wp2_with fail
  obtain ⟨W, hW⟩ : ∃ W, w.alloc (.cells #[.int .i64 23, .string s, .int .i64 n, .slice (some ⟨b, off, none⟩) 2 cap] 29) = W := ⟨_, rfl⟩
  rw [hW] at b0 k0 g0 g1 g2 g3 h0 h1 h2 h3 HC1 HC2
  simp only [hW]
  clear hW
  have kd : Kept W W.drew := (Below.refl _ _).drew
  have HS : Hid (∀ u, Kept W.drew u → (u.cell? ⟨w.heap.size, 0, none⟩ = some (.int .i64 23) ∧ u.cell? ⟨w.heap.size, 3, none⟩ = some (.slice (some ⟨b, off, none⟩) 2 cap)) ∧ (u.cell? ⟨b, off, none⟩ = some (.int .i64 xo) ∧ u.cell? ⟨b, off + 1, none⟩ = some (.string xs) ∧ u.cell? ⟨b, off + 2, none⟩ = some (.int .i64 xn) ∧ u.cell? ⟨b, off + 3, none⟩ = some (.slice a2 xl cq)) ∧ (u.cell? ⟨b, off + 4, none⟩ = some (.int .i64 yo) ∧ u.cell? ⟨b, off + 4 + 1, none⟩ = some (.string ys) ∧ u.cell? ⟨b, off + 4 + 2, none⟩ = some (.int .i64 yn) ∧ u.cell? ⟨b, off + 4 + 3, none⟩ = some (.slice a3 yl cr))) := fun u hu => ⟨⟨(b0.kept (kd.trans hu)).cell 0, (b0.kept (kd.trans hu)).cell 3⟩, ⟨kept_cell (kd.trans hu) g0, kept_cell (kd.trans hu) g1, kept_cell (kd.trans hu) g2, kept_cell (kd.trans hu) g3⟩, kept_cell (kd.trans hu) h0, kept_cell (kd.trans hu) h1, kept_cell (kd.trans hu) h2, kept_cell (kd.trans hu) h3⟩
  have p0 : ¬ 9223372036854775807 < 1 + E1.size := by omega
  have p1 : ¬ 9223372036854775807 < 1 + E1.size + 1 := by omega
  have p2 : ¬ 9223372036854775807 < 1 + E1.size + 1 + 2 := by omega
  have p3 : ¬ 9223372036854775807 < 1 + E1.size + 1 + 2 + 1 := by omega
  have p4 : ¬ 9223372036854775807 < 1 + E1.size + 1 + 2 + 1 + E2.size := by omega
  have p5 : ¬ 9223372036854775807 < 1 + E1.size + 1 + 2 + 1 + E2.size + 1 := by omega
  obtain ⟨V, hV⟩ : ∃ V, sgV w.heap.size b off cap (.agg #[.int .i64 xo, .string xs, .int .i64 xn, .slice a2 xl cq]) (.agg #[.int .i64 yo, .string ys, .int .i64 yn, .slice a3 yl cr]) E1 E2 ⟨#[61, 61]⟩ 23 4 = V := ⟨_, rfl⟩
  refine wp_region_told 22 (sgT W.drew V 4 ⟨#[61, 61]⟩) (fun _ _ => false) (by kernel_rfl) (by kernel_rfl) (by decide) (by kernel_rfl) (by kernel_rfl) (sgT_own _ _ _ _) (Below.refl _ _) ?_ ?_
  · intro i hi vs
    rcases (show i = 0 ∨ i = 1 ∨ i = 2 ∨ i = 3 ∨ i = 4 ∨ i = 5 ∨ i = 6 ∨ i = 7 ∨ i = 8 ∨ i = 9 ∨ i = 10 ∨ i = 11 ∨ i = 12 ∨ i = 13 ∨ i = 14 ∨ i = 15 ∨ i = 16 ∨ i = 17 ∨ i = 18 ∨ i = 19 ∨ i = 20 ∨ i = 21 by omega) with rfl | rfl | rfl | rfl | rfl | rfl | rfl | rfl | rfl | rfl | rfl | rfl | rfl | rfl | rfl | rfl | rfl | rfl | rfl | rfl | rfl | rfl
    · refine ⟨_, rfl, fun u hu hd => .inl ⟨V 0, u, ?_, hu, by simp [sgT, sgR, vsX], (fun j _ _ _ h => h)⟩⟩
      obtain ⟨⟨c0, c3⟩, ⟨d0, d1, d2, d3⟩, f0, f1, f2, f3⟩ := HS.out u hu
      rw [← hV]
      simp only [sgV]
      simp only [frR, dstAt, List.getElem?_toArray, List.getElem?_cons_zero, List.getElem?_cons_succ, Option.bind_some, Act.put, List.setIfInBounds_toArray, List.set_cons_zero, List.set_cons_succ]; go_simp; first | done | exact rfl
    · refine ⟨_, rfl, fun u hu hd => .inl ⟨V 1, u, ?_, hu, by simp [sgT, sgR, vsX], (fun j _ _ _ h => h)⟩⟩
      have e0 : vs 0 = V 0 := hd 0 (by kernel_rfl)
      rw [← hV] at e0
      simp only [sgV] at e0
      obtain ⟨⟨c0, c3⟩, ⟨d0, d1, d2, d3⟩, f0, f1, f2, f3⟩ := HS.out u hu
      rw [← hV]
      simp only [sgV]
      simp only [frR, dstAt, List.getElem?_toArray, List.getElem?_cons_zero, List.getElem?_cons_succ, Option.bind_some, Act.put, List.setIfInBounds_toArray, List.set_cons_zero, List.set_cons_succ]; simp only [e0]; go_simp; first | done | exact rfl
    · refine ⟨_, rfl, fun u hu hd => .inl ⟨V 2, u, ?_, hu, by simp [sgT, sgR, vsX], (fun j _ _ _ h => h)⟩⟩
      have e1 : vs 1 = V 1 := hd 1 (by kernel_rfl)
      rw [← hV] at e1
      simp only [sgV] at e1
      obtain ⟨⟨c0, c3⟩, ⟨d0, d1, d2, d3⟩, f0, f1, f2, f3⟩ := HS.out u hu
      rw [← hV]
      simp only [sgV]
      simp only [frR, dstAt, List.getElem?_toArray, List.getElem?_cons_zero, List.getElem?_cons_succ, Option.bind_some, Act.put, List.setIfInBounds_toArray, List.set_cons_zero, List.set_cons_succ]; simp only [e1]; go_simp; first | done | exact rfl
    · refine ⟨_, rfl, fun u hu hd => .inl ⟨V 3, u, ?_, hu, by simp [sgT, sgR, vsX], (fun j _ _ _ h => h)⟩⟩
      have e2 : vs 2 = V 2 := hd 2 (by kernel_rfl)
      rw [← hV] at e2
      simp only [sgV] at e2
      obtain ⟨⟨c0, c3⟩, ⟨d0, d1, d2, d3⟩, f0, f1, f2, f3⟩ := HS.out u hu
      rw [← hV]
      simp only [sgV]
      simp only [frR, dstAt, List.getElem?_toArray, List.getElem?_cons_zero, List.getElem?_cons_succ, Option.bind_some, Act.put, List.setIfInBounds_toArray, List.set_cons_zero, List.set_cons_succ]; simp only [e2]; go_simp; first | done | exact rfl
    · refine ⟨_, rfl, fun u hu hd => .inr (.inl ⟨31, #[V 3], ?_, ?_⟩)⟩
      · have e3 : vs 3 = V 3 := hd 3 (by kernel_rfl)
        simp only [frR, dstAt, List.getElem?_toArray, List.getElem?_cons_zero, List.getElem?_cons_succ, Option.bind_some, Act.put, List.setIfInBounds_toArray, List.set_cons_zero, List.set_cons_succ]; simp only [e3]; go_simp; first | done | exact rfl
      · rw [← hV]
        refine (HC1.out u (kd.trans hu)).mono ?_
        rintro e w2 ⟨rfl, hk2⟩
        exact ⟨_, rfl, hu.trans hk2, by simp [sgT, sgR, sgV, vsX], (fun j _ _ _ h => sgR_kept hk2 j vs h)⟩
    · refine ⟨_, rfl, fun u hu hd => .inl ⟨V 5, u, ?_, hu, by simp [sgT, sgR, vsX], (fun j _ _ _ h => h)⟩⟩
      have e4 : vs 4 = V 4 := hd 4 (by kernel_rfl)
      rw [← hV] at e4
      simp only [sgV] at e4
      obtain ⟨⟨c0, c3⟩, ⟨d0, d1, d2, d3⟩, f0, f1, f2, f3⟩ := HS.out u hu
      rw [← hV]
      simp only [sgV]
      simp only [frR, dstAt, List.getElem?_toArray, List.getElem?_cons_zero, List.getElem?_cons_succ, Option.bind_some, Act.put, List.setIfInBounds_toArray, List.set_cons_zero, List.set_cons_succ]; simp only [e4]; go_simp; first | done | exact rfl
    · refine ⟨_, rfl, fun u hu hd => .inl ⟨V 6, u, ?_, hu, by simp [sgT, sgR, vsX], (fun j _ _ _ h => h)⟩⟩
      have e5 : vs 5 = V 5 := hd 5 (by kernel_rfl)
      rw [← hV] at e5
      simp only [sgV] at e5
      obtain ⟨⟨c0, c3⟩, ⟨d0, d1, d2, d3⟩, f0, f1, f2, f3⟩ := HS.out u hu
      rw [← hV]
      simp only [sgV]
      simp only [frR, dstAt, List.getElem?_toArray, List.getElem?_cons_zero, List.getElem?_cons_succ, Option.bind_some, Act.put, List.setIfInBounds_toArray, List.set_cons_zero, List.set_cons_succ]; simp only [e5]; go_simp; first | done | exact rfl
    · refine ⟨_, rfl, fun u hu hd => .inr (.inl ⟨51, #[], ?_, ?_⟩)⟩
      · simp only [frR, dstAt, List.getElem?_toArray, List.getElem?_cons_zero, List.getElem?_cons_succ, Option.bind_some, Act.put, List.setIfInBounds_toArray, List.set_cons_zero, List.set_cons_succ]; go_simp; first | done | exact rfl
      · refine (l13Signs_ok u).mono ?_
        rintro e w2 ⟨g, rfl, hk2, s0, s1, s2, s3, s4⟩
        exact ⟨_, rfl, hu.trans hk2, ⟨g, by simp [vsX], s4⟩, (fun j _ _ _ h => sgR_kept hk2 j vs h)⟩
    · refine ⟨_, rfl, fun u hu hd => .inl ⟨V 8, u, ?_, hu, by simp [sgT, sgR, vsX], (fun j _ _ _ h => h)⟩⟩
      obtain ⟨⟨c0, c3⟩, ⟨d0, d1, d2, d3⟩, f0, f1, f2, f3⟩ := HS.out u hu
      rw [← hV]
      simp only [sgV]
      simp only [frR, dstAt, List.getElem?_toArray, List.getElem?_cons_zero, List.getElem?_cons_succ, Option.bind_some, Act.put, List.setIfInBounds_toArray, List.set_cons_zero, List.set_cons_succ]; go_simp; first | done | exact rfl
    · refine ⟨_, rfl, fun u hu hd => .inl ⟨V 9, u, ?_, hu, by simp [sgT, sgR, vsX], (fun j _ _ _ h => h)⟩⟩
      have e8 : vs 8 = V 8 := hd 8 (by kernel_rfl)
      rw [← hV] at e8
      simp only [sgV] at e8
      obtain ⟨⟨c0, c3⟩, ⟨d0, d1, d2, d3⟩, f0, f1, f2, f3⟩ := HS.out u hu
      rw [← hV]
      simp only [sgV]
      simp only [frR, dstAt, List.getElem?_toArray, List.getElem?_cons_zero, List.getElem?_cons_succ, Option.bind_some, Act.put, List.setIfInBounds_toArray, List.set_cons_zero, List.set_cons_succ]; simp only [e8]; go_simp; first | done | exact rfl
    · refine ⟨_, rfl, fun u hu hd => .inl ⟨V 10, u, ?_, hu, by simp [sgT, sgR, vsX], (fun j _ _ _ h => h)⟩⟩
      have e9 : vs 9 = V 9 := hd 9 (by kernel_rfl)
      rw [← hV] at e9
      simp only [sgV] at e9
      obtain ⟨⟨c0, c3⟩, ⟨d0, d1, d2, d3⟩, f0, f1, f2, f3⟩ := HS.out u hu
      rw [← hV]
      simp only [sgV]
      simp only [frR, dstAt, List.getElem?_toArray, List.getElem?_cons_zero, List.getElem?_cons_succ, Option.bind_some, Act.put, List.setIfInBounds_toArray, List.set_cons_zero, List.set_cons_succ]; simp only [e9]; go_simp; first | done | exact rfl
    · refine ⟨_, rfl, fun u hu hd => ?_⟩
      obtain ⟨g, e7, hc⟩ : ∃ g, vs 7 = .slice (some ⟨g, 0, none⟩) 5 5 ∧ u.cell? ⟨g, 4, none⟩ = some (.string ⟨#[61, 61]⟩) := hd 7 (by kernel_rfl)
      have e10 : vs 10 = V 10 := hd 10 (by kernel_rfl)
      have e10' : vs 10 = .int .i64 4 := by rw [e10, ← hV]; rfl
      refine .inl ⟨.pointer (some ⟨g, 4, none⟩), u, ?_, hu, ⟨g, by simp [vsX], hc⟩, (fun j _ _ _ h => h)⟩
      simp only [frR, dstAt, List.getElem?_toArray, List.getElem?_cons_zero, List.getElem?_cons_succ, Option.bind_some, Act.put, List.setIfInBounds_toArray, List.set_cons_zero, List.set_cons_succ]; simp only [e7, e10']; go_simp; first | done | exact rfl
    · refine ⟨_, rfl, fun u hu hd => ?_⟩
      obtain ⟨g, e11, hc⟩ : ∃ g, vs 11 = .pointer (some ⟨g, 4, none⟩) ∧ u.cell? ⟨g, 4, none⟩ = some (.string ⟨#[61, 61]⟩) := hd 11 (by kernel_rfl)
      refine .inl ⟨.string ⟨#[61, 61]⟩, u, ?_, hu, by rw [← hV]; simp [sgT, sgR, sgV, vsX], (fun j _ _ _ h => h)⟩
      simp only [frR, dstAt, List.getElem?_toArray, List.getElem?_cons_zero, List.getElem?_cons_succ, Option.bind_some, Act.put, List.setIfInBounds_toArray, List.set_cons_zero, List.set_cons_succ]; simp only [e11]; go_simp; first | done | exact rfl
    · refine ⟨_, rfl, fun u hu hd => .inl ⟨V 13, u, ?_, hu, by simp [sgT, sgR, vsX], (fun j _ _ _ h => h)⟩⟩
      have e6 : vs 6 = V 6 := hd 6 (by kernel_rfl)
      rw [← hV] at e6
      simp only [sgV] at e6
      have e12 : vs 12 = V 12 := hd 12 (by kernel_rfl)
      rw [← hV] at e12
      simp only [sgV] at e12
      obtain ⟨⟨c0, c3⟩, ⟨d0, d1, d2, d3⟩, f0, f1, f2, f3⟩ := HS.out u hu
      rw [← hV]
      simp only [sgV]
      simp only [frR, dstAt, List.getElem?_toArray, List.getElem?_cons_zero, List.getElem?_cons_succ, Option.bind_some, Act.put, List.setIfInBounds_toArray, List.set_cons_zero, List.set_cons_succ]; simp only [e6, e12]; go_simp; first | done | exact rfl
    · refine ⟨_, rfl, fun u hu hd => .inl ⟨V 14, u, ?_, hu, by simp [sgT, sgR, vsX], (fun j _ _ _ h => h)⟩⟩
      have e13 : vs 13 = V 13 := hd 13 (by kernel_rfl)
      rw [← hV] at e13
      simp only [sgV] at e13
      obtain ⟨⟨c0, c3⟩, ⟨d0, d1, d2, d3⟩, f0, f1, f2, f3⟩ := HS.out u hu
      rw [← hV]
      simp only [sgV]
      simp only [frR, dstAt, List.getElem?_toArray, List.getElem?_cons_zero, List.getElem?_cons_succ, Option.bind_some, Act.put, List.setIfInBounds_toArray, List.set_cons_zero, List.set_cons_succ]; simp only [e13]; go_simp; first | done | exact rfl
    · refine ⟨_, rfl, fun u hu hd => .inl ⟨V 15, u, ?_, hu, by simp [sgT, sgR, vsX], (fun j _ _ _ h => h)⟩⟩
      obtain ⟨⟨c0, c3⟩, ⟨d0, d1, d2, d3⟩, f0, f1, f2, f3⟩ := HS.out u hu
      rw [← hV]
      simp only [sgV]
      simp only [frR, dstAt, List.getElem?_toArray, List.getElem?_cons_zero, List.getElem?_cons_succ, Option.bind_some, Act.put, List.setIfInBounds_toArray, List.set_cons_zero, List.set_cons_succ]; go_simp; first | done | exact rfl
    · refine ⟨_, rfl, fun u hu hd => .inl ⟨V 16, u, ?_, hu, by simp [sgT, sgR, vsX], (fun j _ _ _ h => h)⟩⟩
      have e15 : vs 15 = V 15 := hd 15 (by kernel_rfl)
      rw [← hV] at e15
      simp only [sgV] at e15
      obtain ⟨⟨c0, c3⟩, ⟨d0, d1, d2, d3⟩, f0, f1, f2, f3⟩ := HS.out u hu
      rw [← hV]
      simp only [sgV]
      simp only [frR, dstAt, List.getElem?_toArray, List.getElem?_cons_zero, List.getElem?_cons_succ, Option.bind_some, Act.put, List.setIfInBounds_toArray, List.set_cons_zero, List.set_cons_succ]; simp only [e15]; go_simp; first | done | exact rfl
    · refine ⟨_, rfl, fun u hu hd => .inl ⟨V 17, u, ?_, hu, by simp [sgT, sgR, vsX], (fun j _ _ _ h => h)⟩⟩
      have e16 : vs 16 = V 16 := hd 16 (by kernel_rfl)
      rw [← hV] at e16
      simp only [sgV] at e16
      obtain ⟨⟨c0, c3⟩, ⟨d0, d1, d2, d3⟩, f0, f1, f2, f3⟩ := HS.out u hu
      rw [← hV]
      simp only [sgV]
      simp only [frR, dstAt, List.getElem?_toArray, List.getElem?_cons_zero, List.getElem?_cons_succ, Option.bind_some, Act.put, List.setIfInBounds_toArray, List.set_cons_zero, List.set_cons_succ]; simp only [e16]; go_simp; first | done | exact rfl
    · refine ⟨_, rfl, fun u hu hd => .inl ⟨V 18, u, ?_, hu, by simp [sgT, sgR, vsX], (fun j _ _ _ h => h)⟩⟩
      have e17 : vs 17 = V 17 := hd 17 (by kernel_rfl)
      rw [← hV] at e17
      simp only [sgV] at e17
      obtain ⟨⟨c0, c3⟩, ⟨d0, d1, d2, d3⟩, f0, f1, f2, f3⟩ := HS.out u hu
      rw [← hV]
      simp only [sgV]
      simp only [frR, dstAt, List.getElem?_toArray, List.getElem?_cons_zero, List.getElem?_cons_succ, Option.bind_some, Act.put, List.setIfInBounds_toArray, List.set_cons_zero, List.set_cons_succ]; simp only [e17]; go_simp; first | done | exact rfl
    · refine ⟨_, rfl, fun u hu hd => .inr (.inl ⟨31, #[V 18], ?_, ?_⟩)⟩
      · have e18 : vs 18 = V 18 := hd 18 (by kernel_rfl)
        simp only [frR, dstAt, List.getElem?_toArray, List.getElem?_cons_zero, List.getElem?_cons_succ, Option.bind_some, Act.put, List.setIfInBounds_toArray, List.set_cons_zero, List.set_cons_succ]; simp only [e18]; go_simp; first | done | exact rfl
      · rw [← hV]
        refine (HC2.out u (kd.trans hu)).mono ?_
        rintro e w2 ⟨rfl, hk2⟩
        exact ⟨_, rfl, hu.trans hk2, by simp [sgT, sgR, sgV, vsX], (fun j _ _ _ h => sgR_kept hk2 j vs h)⟩
    · refine ⟨_, rfl, fun u hu hd => .inl ⟨V 20, u, ?_, hu, by simp [sgT, sgR, vsX], (fun j _ _ _ h => h)⟩⟩
      have e14 : vs 14 = V 14 := hd 14 (by kernel_rfl)
      rw [← hV] at e14
      simp only [sgV] at e14
      have e19 : vs 19 = V 19 := hd 19 (by kernel_rfl)
      rw [← hV] at e19
      simp only [sgV] at e19
      obtain ⟨⟨c0, c3⟩, ⟨d0, d1, d2, d3⟩, f0, f1, f2, f3⟩ := HS.out u hu
      rw [← hV]
      simp only [sgV]
      simp only [frR, dstAt, List.getElem?_toArray, List.getElem?_cons_zero, List.getElem?_cons_succ, Option.bind_some, Act.put, List.setIfInBounds_toArray, List.set_cons_zero, List.set_cons_succ]; simp only [e14, e19]; go_simp; first | done | exact rfl
    · refine ⟨_, rfl, fun u hu hd => .inl ⟨V 21, u, ?_, hu, by simp [sgT, sgR, vsX], (fun j _ _ _ h => h)⟩⟩
      have e20 : vs 20 = V 20 := hd 20 (by kernel_rfl)
      rw [← hV] at e20
      simp only [sgV] at e20
      obtain ⟨⟨c0, c3⟩, ⟨d0, d1, d2, d3⟩, f0, f1, f2, f3⟩ := HS.out u hu
      rw [← hV]
      simp only [sgV]
      simp only [frR, dstAt, List.getElem?_toArray, List.getElem?_cons_zero, List.getElem?_cons_succ, Option.bind_some, Act.put, List.setIfInBounds_toArray, List.set_cons_zero, List.set_cons_succ]; simp only [e20]; go_simp; first | done | exact rfl
  · intro vs u hu
    simp only [List.drop_succ_cons, List.drop_zero, seqWp]
    simp only [frR, dstAt, List.getElem?_toArray, List.getElem?_cons_zero, List.getElem?_cons_succ, Option.bind_some, Act.put, List.setIfInBounds_toArray, List.set_cons_zero, List.set_cons_succ]
    intro hR
    have e21 : vs 21 = V 21 := hR 21 (by decide) (fun _ _ => by trivial)
    rw [← hV] at e21
    simp only [sgV] at e21
    simp only [e21]
    have hu : Kept W.drew u := hu
    go_wp2_with fail
    go_ret
    exact ⟨by rw [HW.out]; rfl, k0.trans (kd.trans hu)⟩
end Go.Proofs.YtejpjbfmjmfnmaaGreatDoor
