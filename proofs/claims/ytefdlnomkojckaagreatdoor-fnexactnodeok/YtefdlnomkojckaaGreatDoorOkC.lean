/-
  The contracts of chapter 13's models l13Ok and NodeOk (genOk.py).
-/
import Derived.Test.YtefdlnomkojckaaGreatDoorOkB
import Derived.Test.YtefdlnomkojckaaGreatDoorNodA
namespace Go.Proofs.YtefdlnomkojckaaGreatDoor
open Go.RowKit
set_option linter.unusedSimpArgs false

set_option maxHeartbeats 16000000 in
set_option maxRecDepth 100000 in
theorem l13Ok_step (m : Nat) (H : OkCd m) : OkCd (m + 1) := by
  intro t ht hb w base v hv
  cases t with
  | mk op s n ks =>
  simp only [Nd.size, Nd.bulk] at ht hb
  have hvN := hv
  rw [NdV] at hv
  obtain ⟨ao, cap, rfl, hml, hks⟩ := hv
  have b0 := Cells.new w 29 #[.int .i64 op, .string s, .int .i64 n, .slice ao ks.length cap]
  have k0 : Kept w (w.alloc (.cells #[.int .i64 op, .string s, .int .i64 n, .slice ao ks.length cap] 29)) := Kept.alloc (Below.refl _ _) _
  have hK := l13Kids_ok m H op s n ks ht hb _ base _ (hvN.kept k0)
  have hsb : s.size ≤ 1048576 := by omega
  rw [show okT (.mk op s n ks) = (ownB op s n && kidsR op ks) by rw [okT]; rfl]
  obtain ⟨kb, hkb⟩ : ∃ b, kidsR op ks = b := ⟨_, rfl⟩
  rw [hkb] at hK
  rw [hkb]
  clear hkb hks hvN H ht hb
  by_cases hn : n = 0
  · subst hn
    cases kb with
    | false =>
      have HX : Hid ((ownB op s 0 && false) = false) := by simp [Hid]
      go_enter Tryz.func15, Tryz.ntmps15
      go_wp2_with (go_at_call 24; refine hK.mono ?_; rintro e w1 ⟨rfl, hk1⟩; have y1 := b0.kept hk1; have c0 := y1.cell 0; have c1 := y1.cell 1; have c2 := y1.cell 2; have c3 := y1.cell 3)
      go_ret
      exact ⟨by rw [HX.out]; rfl, k0.trans hk1⟩
    | true =>
      by_cases hA : op = 2 ∨ op = 3 ∨ op = 16 ∨ op = 26
      · have h := hA
        obtain ⟨x, hx⟩ : ∃ x, nameR s false = x := ⟨_, rfl⟩
        have hN := fun u => l13Name_ok u s false hsb
        rw [hx] at hN
        have HO : Hid (ownB op s 0 = x) := by rw [Hid, ← hx]; rcases h with rfl | rfl | rfl | rfl <;> rfl
        have HX : Hid ((ownB op s 0 && true) = x) := by rw [Hid, HO.out]; simp
        clear hx
        rcases h with rfl | rfl | rfl | rfl
        all_goals (
          go_enter Tryz.func15, Tryz.ntmps15
          go_wp2_with (first | (go_at_call 25; refine (hN w1).mono ?_; rintro e w2 ⟨rfl, hk2⟩) | (go_at_call 24; refine hK.mono ?_; rintro e w1 ⟨rfl, hk1⟩; have y1 := b0.kept hk1; have c0 := y1.cell 0; have c1 := y1.cell 1; have c2 := y1.cell 2; have c3 := y1.cell 3))
          go_ret
          exact ⟨by rw [HX.out]; rfl, k0.trans (hk1.trans hk2)⟩)
      by_cases hB : op = 4 ∨ op = 17
      · have h := hB
        obtain ⟨x, hx⟩ : ∃ x, nameR s true = x := ⟨_, rfl⟩
        have hN := fun u => l13Name_ok u s true hsb
        rw [hx] at hN
        have HO : Hid (ownB op s 0 = x) := by rw [Hid, ← hx]; rcases h with rfl | rfl <;> rfl
        have HX : Hid ((ownB op s 0 && true) = x) := by rw [Hid, HO.out]; simp
        clear hx
        rcases h with rfl | rfl
        all_goals (
          go_enter Tryz.func15, Tryz.ntmps15
          go_wp2_with (first | (go_at_call 25; refine (hN w1).mono ?_; rintro e w2 ⟨rfl, hk2⟩) | (go_at_call 24; refine hK.mono ?_; rintro e w1 ⟨rfl, hk1⟩; have y1 := b0.kept hk1; have c0 := y1.cell 0; have c1 := y1.cell 1; have c2 := y1.cell 2; have c3 := y1.cell 3))
          go_ret
          exact ⟨by rw [HX.out]; rfl, k0.trans (hk1.trans hk2)⟩)
      by_cases hC : op = 11
      · have h := hC
        obtain ⟨x, hx⟩ : ∃ x, textR s = x := ⟨_, rfl⟩
        have hN := fun u => l13Text_ok u s hsb
        rw [hx] at hN
        have HO : Hid (ownB op s 0 = x) := by rw [Hid, ← hx]; rcases h with rfl <;> rfl
        have HX : Hid ((ownB op s 0 && true) = x) := by rw [Hid, HO.out]; simp
        clear hx
        rcases h with rfl
        all_goals (
          go_enter Tryz.func15, Tryz.ntmps15
          go_wp2_with (first | (go_at_call 26; refine (hN w1).mono ?_; rintro e w2 ⟨rfl, hk2⟩) | (go_at_call 24; refine hK.mono ?_; rintro e w1 ⟨rfl, hk1⟩; have y1 := b0.kept hk1; have c0 := y1.cell 0; have c1 := y1.cell 1; have c2 := y1.cell 2; have c3 := y1.cell 3))
          go_ret
          exact ⟨by rw [HX.out]; rfl, k0.trans (hk1.trans hk2)⟩)
      by_cases hD : op = 27
      · have h := hD
        obtain ⟨x, hx⟩ : ∃ x, namesR s = x := ⟨_, rfl⟩
        have hN := fun u => l13Names_ok u s hsb
        rw [hx] at hN
        have HO : Hid (ownB op s 0 = x) := by rw [Hid, ← hx]; rcases h with rfl <;> rfl
        have HX : Hid ((ownB op s 0 && true) = x) := by rw [Hid, HO.out]; simp
        clear hx
        rcases h with rfl
        all_goals (
          go_enter Tryz.func15, Tryz.ntmps15
          go_wp2_with (first | (go_at_call 27; refine (hN w1).mono ?_; rintro e w2 ⟨rfl, hk2⟩) | (go_at_call 24; refine hK.mono ?_; rintro e w1 ⟨rfl, hk1⟩; have y1 := b0.kept hk1; have c0 := y1.cell 0; have c1 := y1.cell 1; have c2 := y1.cell 2; have c3 := y1.cell 3))
          go_ret
          exact ⟨by rw [HX.out]; rfl, k0.trans (hk1.trans hk2)⟩)
      by_cases h10 : op = 10
      · subst h10
        have HOW : Hid (ownB 10 s 0 = (s.toList.isEmpty && true)) := by rw [Hid, ownB]; simp
        cases hse : s.toList.isEmpty with
        | false =>
          have HX : Hid ((ownB 10 s 0 && true) = false) := by rw [Hid, HOW.out, hse]; simp
          have HSE : s.toList.isEmpty = false := hse
          clear hse
          go_enter Tryz.func15, Tryz.ntmps15
          go_wp2_with (go_at_call 24; refine hK.mono ?_; rintro e w1 ⟨rfl, hk1⟩; have y1 := b0.kept hk1; have c0 := y1.cell 0; have c1 := y1.cell 1; have c2 := y1.cell 2; have c3 := y1.cell 3)
          go_ret
          exact ⟨by rw [HX.out]; rfl, k0.trans hk1⟩
        | true =>
          have HX : Hid ((ownB 10 s 0 && true) = true) := by rw [Hid, HOW.out, hse]; simp
          have HSE : s.toList.isEmpty = true := hse
          have hI := fun (u : World) => l1In_yes 0 (-2147483647) 2147483647 u (by omega) (by omega)
          clear hse
          go_enter Tryz.func15, Tryz.ntmps15
          go_wp2_with (first | (go_at_call 28; refine (hI _).mono ?_; rintro e wx ⟨rfl, rfl⟩) | (go_at_call 24; refine hK.mono ?_; rintro e w1 ⟨rfl, hk1⟩; have y1 := b0.kept hk1; have c0 := y1.cell 0; have c1 := y1.cell 1; have c2 := y1.cell 2; have c3 := y1.cell 3))
          go_ret
          exact ⟨by rw [HX.out]; rfl, k0.trans hk1⟩
      have HOW : Hid (ownB op s 0 = (s.toList.isEmpty && decide (1 ≤ op ∧ op ≤ 27))) := by
        rw [Hid, ownB, if_neg h10, if_neg (by omega), if_neg (by omega), if_neg (by omega), if_neg (by omega)]
        simp
      have z2 : (op == 2) = false := by simp; omega
      have z3 : (op == 3) = false := by simp; omega
      have z4 : (op == 4) = false := by simp; omega
      have z10 : (op == 10) = false := by simp; omega
      have z11 : (op == 11) = false := by simp; omega
      have z16 : (op == 16) = false := by simp; omega
      have z17 : (op == 17) = false := by simp; omega
      have z26 : (op == 26) = false := by simp; omega
      have z27 : (op == 27) = false := by simp; omega
      clear h10 hA hB hC hD
      cases hse : s.toList.isEmpty with
      | false =>
        have HX : Hid ((ownB op s 0 && true) = false) := by rw [Hid, HOW.out, hse]; simp
        have HSE : s.toList.isEmpty = false := hse
        clear hse
        go_enter Tryz.func15, Tryz.ntmps15
        go_wp2_with (go_at_call 24; refine hK.mono ?_; rintro e w1 ⟨rfl, hk1⟩; have y1 := b0.kept hk1; have c0 := y1.cell 0; have c1 := y1.cell 1; have c2 := y1.cell 2; have c3 := y1.cell 3)
        go_ret
        exact ⟨by rw [HX.out]; rfl, k0.trans hk1⟩
      | true =>
        have HX : Hid ((ownB op s 0 && true) = (decide (1 ≤ op) && decide (op ≤ 27))) := by rw [Hid, HOW.out, hse]; simp
        have HSE : s.toList.isEmpty = true := hse
        have hI := fun (u : World) => l1In_b op 1 27 u
        clear hse
        go_enter Tryz.func15, Tryz.ntmps15
        go_wp2_with (first | (go_at_call 28; refine (hI _).mono ?_; rintro e wx ⟨rfl, rfl⟩) | (go_at_call 24; refine hK.mono ?_; rintro e w1 ⟨rfl, hk1⟩; have y1 := b0.kept hk1; have c0 := y1.cell 0; have c1 := y1.cell 1; have c2 := y1.cell 2; have c3 := y1.cell 3))
        go_ret
        exact ⟨by rw [HX.out]; rfl, k0.trans hk1⟩
  · have n1 : (n != 0) = true := by simpa using hn
    by_cases h10 : op = 10
    · subst h10
      have HOW : Hid (ownB 10 s n = (s.toList.isEmpty && decide (-2147483647 ≤ n ∧ n ≤ 2147483647))) := by rw [Hid, ownB]; simp
      clear hn
      cases kb with
      | false =>
        have HX : Hid ((ownB 10 s n && false) = false) := by simp [Hid]
        go_enter Tryz.func15, Tryz.ntmps15
        go_wp2_with (go_at_call 24; refine hK.mono ?_; rintro e w1 ⟨rfl, hk1⟩; have y1 := b0.kept hk1; have c0 := y1.cell 0; have c1 := y1.cell 1; have c2 := y1.cell 2; have c3 := y1.cell 3)
        go_ret
        exact ⟨by rw [HX.out]; rfl, k0.trans hk1⟩
      | true =>
        cases hse : s.toList.isEmpty with
        | false =>
          have HX : Hid ((ownB 10 s n && true) = false) := by rw [Hid, HOW.out, hse]; simp
          have HSE : s.toList.isEmpty = false := hse
          clear hse
          go_enter Tryz.func15, Tryz.ntmps15
          go_wp2_with (go_at_call 24; refine hK.mono ?_; rintro e w1 ⟨rfl, hk1⟩; have y1 := b0.kept hk1; have c0 := y1.cell 0; have c1 := y1.cell 1; have c2 := y1.cell 2; have c3 := y1.cell 3)
          go_ret
          exact ⟨by rw [HX.out]; rfl, k0.trans hk1⟩
        | true =>
          have HX : Hid ((ownB 10 s n && true) = (decide (-2147483647 ≤ n) && decide (n ≤ 2147483647))) := by rw [Hid, HOW.out, hse]; simp
          have HSE : s.toList.isEmpty = true := hse
          have hI := fun (u : World) => l1In_b n (-2147483647) 2147483647 u
          clear hse
          go_enter Tryz.func15, Tryz.ntmps15
          go_wp2_with (first | (go_at_call 28; refine (hI _).mono ?_; rintro e wx ⟨rfl, rfl⟩) | (go_at_call 24; refine hK.mono ?_; rintro e w1 ⟨rfl, hk1⟩; have y1 := b0.kept hk1; have c0 := y1.cell 0; have c1 := y1.cell 1; have c2 := y1.cell 2; have c3 := y1.cell 3))
          go_ret
          exact ⟨by rw [HX.out]; rfl, k0.trans hk1⟩
    · have HX : Hid ((ownB op s n && kb) = false) := by rw [Hid, ownB, if_neg h10, decide_eq_false hn]; simp
      have o1 : (op != 10) = true := by simpa using h10
      clear hn h10
      go_enter Tryz.func15, Tryz.ntmps15
      go_wp2_with fail
      go_ret
      exact ⟨by rw [HX.out]; rfl, k0⟩
theorem l13Ok_ok : ∀ m, OkCd m
  | 0 => fun t ht => by have := t.size_pos; omega
  | m + 1 => l13Ok_step m (l13Ok_ok m)
set_option maxHeartbeats 16000000 in
set_option maxRecDepth 100000 in
theorem spec_NodeOk_ok (t : Nd) (hb : t.bulk ≤ 1048576) (w : World) (base : Nat) (v : Value) (hv : NdV w base t v) :
    Calls Tryz.prog 6 #[v] w fun e w' => e = .returned (.bool (nodeR t)) ∧ Kept w w' := by
  have hsz := t.size_le
  cases t with
  | mk op s n ks =>
  have hvN := hv
  rw [NdV] at hv
  obtain ⟨ao, cap, rfl, hml, hks⟩ := hv
  have b0 := Cells.new w 29 #[.int .i64 op, .string s, .int .i64 n, .slice ao ks.length cap]
  have k0 : Kept w (w.alloc (.cells #[.int .i64 op, .string s, .int .i64 n, .slice ao ks.length cap] 29)) := Kept.alloc (Below.refl _ _) _
  have HV : Hid (∀ u, Kept (w.alloc (.cells #[.int .i64 op, .string s, .int .i64 n, .slice ao ks.length cap] 29)) u → NdV u base (.mk op s n ks) (.agg #[.int .i64 op, .string s, .int .i64 n, .slice ao ks.length cap])) := fun u hu => (hvN.kept k0).kept hu
  have HB : Hid (∀ u, Kept (w.alloc (.cells #[.int .i64 op, .string s, .int .i64 n, .slice ao ks.length cap] 29)) u → u.cell? ⟨w.heap.size, 0, none⟩ = some (.int .i64 op) ∧ u.cell? ⟨w.heap.size, 1, none⟩ = some (.string s) ∧ u.cell? ⟨w.heap.size, 2, none⟩ = some (.int .i64 n) ∧ u.cell? ⟨w.heap.size, 3, none⟩ = some (.slice ao ks.length cap)) := fun u hu => ⟨(b0.kept hu).cell 0, (b0.kept hu).cell 1, (b0.kept hu).cell 2, (b0.kept hu).cell 3⟩
  clear hks hvN b0
  obtain ⟨T, hT⟩ : ∃ T, Nd.mk op s n ks = T := ⟨_, rfl⟩
  have hop : T.op = op := by rw [← hT]; rfl
  rw [hT] at HV hb hsz
  rw [hT]
  clear hT
  have HD : Hid (∀ u, Kept (w.alloc (.cells #[.int .i64 op, .string s, .int .i64 n, .slice ao ks.length cap] 29)) u → Calls Tryz.prog 13 #[.agg #[.int .i64 op, .string s, .int .i64 n, .slice ao ks.length cap]] u fun e w' => e = .returned (.int .i64 (T.deep : Nat)) ∧ Kept u w') := fun u hu => spec_Deep_ok _ T (Nat.le_refl _) u base _ (HV.out u hu) (by omega)
  have HS : Hid (∀ u, Kept (w.alloc (.cells #[.int .i64 op, .string s, .int .i64 n, .slice ao ks.length cap] 29)) u → Calls Tryz.prog 14 #[.agg #[.int .i64 op, .string s, .int .i64 n, .slice ao ks.length cap]] u fun e w' => e = .returned (.int .i64 (T.size : Nat)) ∧ Kept u w') := fun u hu => spec_Size_ok _ T (Nat.le_refl _) u base _ (HV.out u hu) (by omega)
  have HO : Hid (∀ u, Kept (w.alloc (.cells #[.int .i64 op, .string s, .int .i64 n, .slice ao ks.length cap] 29)) u → Calls Tryz.prog 15 #[.agg #[.int .i64 op, .string s, .int .i64 n, .slice ao ks.length cap]] u fun e w' => e = .returned (.bool (okT T)) ∧ Kept u w') := fun u hu => l13Ok_ok _ T (Nat.le_refl _) hb u base _ (HV.out u hu)
  have HR : Hid (nodeR T = (decide (op = 1) && (decide (T.deep ≤ 20) && (decide (T.size ≤ 200) && okT T)))) := by rw [Hid, nodeR, hop]
  obtain ⟨x, hx⟩ : ∃ x, okT T = x := ⟨_, rfl⟩
  rw [hx] at HO HR
  obtain ⟨D, hD⟩ : ∃ D, T.deep = D := ⟨_, rfl⟩
  obtain ⟨Z, hZ⟩ : ∃ D, T.size = D := ⟨_, rfl⟩
  rw [hD] at HD HR
  rw [hZ] at HS HR
  clear hx hD hZ hb hsz hop HV
  obtain ⟨c0, c1, c2, c3⟩ := HB.out _ (Below.refl _ _)
  by_cases h1 : op = 1
  · subst h1
    by_cases h2 : D ≤ 20
    · have q2 : decide (D ≤ 20) = true := by simpa using h2
      by_cases h3 : Z ≤ 200
      · have q3 : decide (Z ≤ 200) = true := by simpa using h3
        rw [q2, q3] at HR
        have q4 : ((D : Nat) : Int) ≤ 20 := by omega
        have q5 : ((Z : Nat) : Int) ≤ 200 := by omega
        clear h2 h3 q2 q3
        go_enter Tryz.func6, Tryz.ntmps6
        go_wp2_with (first
          | (have _tk := kz; go_at_call 15; refine (HO.out _ kz).mono ?_; rintro e w3 ⟨rfl, hk3⟩)
          | (have _tk := kd; go_at_call 14; refine (HS.out _ kd).mono ?_; rintro e w2 ⟨rfl, hk2⟩; have kz := kd.trans hk2; obtain ⟨c0, c1, c2, c3⟩ := HB.out _ kz)
          | (go_at_call 13; refine (HD.out _ (Below.refl _ _)).mono ?_; rintro e w1 ⟨rfl, kd⟩; obtain ⟨c0, c1, c2, c3⟩ := HB.out _ kd))
        go_ret
        exact ⟨by rw [HR.out]; rfl, k0.trans (kz.trans hk3)⟩
      · have q3 : decide (Z ≤ 200) = false := by simpa using h3
        rw [q2, q3] at HR
        have q4 : ((D : Nat) : Int) ≤ 20 := by omega
        have q5 : ¬ ((Z : Nat) : Int) ≤ 200 := by omega
        clear h2 h3 q2 q3
        go_enter Tryz.func6, Tryz.ntmps6
        go_wp2_with (first
          | (have _tk := kd; go_at_call 14; refine (HS.out _ kd).mono ?_; rintro e w2 ⟨rfl, hk2⟩; have kz := kd.trans hk2; obtain ⟨c0, c1, c2, c3⟩ := HB.out _ kz)
          | (go_at_call 13; refine (HD.out _ (Below.refl _ _)).mono ?_; rintro e w1 ⟨rfl, kd⟩; obtain ⟨c0, c1, c2, c3⟩ := HB.out _ kd))
        go_ret
        exact ⟨by rw [HR.out]; rfl, k0.trans kz⟩
    · have q2 : decide (D ≤ 20) = false := by simpa using h2
      rw [q2] at HR
      have q4 : ¬ ((D : Nat) : Int) ≤ 20 := by omega
      clear h2 q2
      go_enter Tryz.func6, Tryz.ntmps6
      go_wp2_with (first
        | (go_at_call 13; refine (HD.out _ (Below.refl _ _)).mono ?_; rintro e w1 ⟨rfl, kd⟩; obtain ⟨c0, c1, c2, c3⟩ := HB.out _ kd))
      go_ret
      exact ⟨by rw [HR.out]; rfl, k0.trans kd⟩
  · have q1 : (op == 1) = false := by simpa using h1
    rw [decide_eq_false h1] at HR
    clear h1
    go_enter Tryz.func6, Tryz.ntmps6
    go_wp2_with fail
    go_ret
    exact ⟨by rw [HR.out]; rfl, k0⟩
end Go.Proofs.YtefdlnomkojckaaGreatDoor
