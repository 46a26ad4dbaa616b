/-
  The contract of chapter 11's model l11One, weakly told: a token that begins at a place ends behind it.
-/
import Derived.Test.YtejpjbfmjmfnmaaGreatDoorTokC
import Derived.Test.YtejpjbfmjmfnmaaGreatDoorTokD
import Derived.Test.YtejpjbfmjmfnmaaGreatDoorTokE
namespace Go.Proofs.YtejpjbfmjmfnmaaGreatDoor
open Go.RowKit
set_option linter.unusedSimpArgs false

abbrev tokV (k : Int) (s : ByteArray) (n a : Int) : Value := .agg #[.int .i64 k, .string s, .int .i64 n, .int .i64 a]
theorem spanN_le {p : Int → Bool} {t : ByteArray} : ∀ n a, a ≤ spanN p t n a ∧ spanN p t n a ≤ max a t.size
  | 0, a => by simp [spanN]; omega
  | n + 1, a => by
    unfold spanN
    split
    · rename_i h
      simp at h
      have := spanN_le (p := p) (t := t) n (a + 1)
      omega
    · omega
theorem runE_le {p : Int → Bool} {t : ByteArray} (a : Nat) : a ≤ runE p t a ∧ runE p t a ≤ max a t.size := spanN_le _ _
/-- What is told of a token that was read at a. -/
def OneOk (t : ByteArray) (a : Nat) (v : Value) : Prop := ∃ k s n p to ok, v = .tuple #[tokV k s n p, .int .i64 (to : Nat), .bool ok] ∧ (ok = true → 1 ≤ k ∧ k ≤ 4 ∧ p = (a : Nat) ∧ a < to ∧ to ≤ t.size ∧ s.size ≤ 1048576) ∧
  (ok = true → k = 1 → n = 0 ∧ letB (byteN t a) = true ∧ s = t.extract a (runE nameB t a) ∧ to = runE nameB t a ∧ runE nameB t a ≤ a + 12) ∧ (letB (byteN t a) = true → runE nameB t a ≤ a + 12 → ok = true ∧ k = 1)
theorem extract_le (t : ByteArray) (a b : Nat) : (t.extract a b).size ≤ t.size := by
  rw [ByteArray.size_extract]
  omega
set_option maxHeartbeats 8000000 in
set_option maxRecDepth 100000 in
theorem l11One_ok (w : World) (t : ByteArray) (a : Nat) (ha : a < t.size) (ht : t.size ≤ 1048576) :
    Calls Tryz.prog 97 #[.string t, .int .i64 (a : Nat)] w fun e w' => ∃ v, e = .returned v ∧ OneOk t a v ∧ Kept w w' := by
  have q1 : (a : Int) < (t.size : Int) := by omega
  have y4 := Cells.new w 107 #[.int .i64 0, .string ⟨#[]⟩, .int .i64 0, .int .i64 0]
  have k0 : Kept w (w.alloc (.cells #[.int .i64 0, .string ⟨#[]⟩, .int .i64 0, .int .i64 0] 107)) := Kept.alloc (Below.refl _ _) _
  by_cases hL : letB (byteN t a) = true
  · have hL' : letB (t[a].toNat : Int) = true := by rw [byteN_get t a ha]; exact hL
    have hN := l11Name_ok (w.alloc (.cells #[.int .i64 0, .string ⟨#[]⟩, .int .i64 0, .int .i64 0] 107)) t a (by omega) ht
    have HO : Hid (OneOk t a (.tuple #[tokV 1 (t.extract a (runE nameB t a)) 0 (a : Nat), .int .i64 (runE nameB t a : Nat), .bool (decide (runE nameB t a ≤ a + 12))])) := by
      refine ⟨_, _, _, _, _, _, rfl, fun _ => ⟨by decide, by decide, rfl, ?_, ?_, Nat.le_trans (extract_le _ _ _) ht⟩, fun h _ => ⟨rfl, hL, rfl, rfl, by simpa using h⟩, fun _ h => ⟨by simpa using h, rfl⟩⟩
      · rw [runE_step ha (by simp [nameB, hL])]
        have := (runE_le (p := nameB) (t := t) (a + 1)).1
        omega
      · have := (runE_le (p := nameB) (t := t) a).2
        omega
    obtain ⟨s1, hs1⟩ : ∃ s1, t.extract a (runE nameB t a) = s1 := ⟨_, rfl⟩
    obtain ⟨e1, he1⟩ : ∃ e1, runE nameB t a = e1 := ⟨_, rfl⟩
    obtain ⟨o1, ho1⟩ : ∃ o1, decide (runE nameB t a ≤ a + 12) = o1 := ⟨_, rfl⟩
    rw [hs1, ho1, he1] at hN HO
    clear hL hs1 he1 ho1
    go_enter Tryz.func97, Tryz.ntmps97
    go_wp2_with (first | (go_at_call 108; refine (l11Letter_ok _ _).mono ?_; rintro e wx ⟨rfl, rfl⟩) | (go_at_call 109; refine hN.mono ?_; rintro e w1 ⟨rfl, hk1⟩; have y4 := Cells.kept y4 hk1; have c0 := y4.cell 0; have c1 := y4.cell 1; have c2 := y4.cell 2; have c3 := y4.cell 3; have f0 := y4.frozen 0; have f1 := y4.frozen 1; have f2 := y4.frozen 2; have f3 := y4.frozen 3; have l4 := y4.lt))
    have z := ((((y4.set 0 (.int .i64 1)).set 1 (.string s1)).set 2 (.int .i64 0)).set 3 (.int .i64 (a : Nat))).alloc (.cells #[.int .i64 1, .string s1, .int .i64 0, .int .i64 (a : Nat)] 107)
    have z0 := z.cell 0; have z1 := z.cell 1; have z2 := z.cell 2; have z3 := z.cell 3
    refine bodyPost_ret (v := .tuple #[tokV 1 s1 0 (a : Nat), .int .i64 (e1 : Nat), .bool o1]) (by simp [results, Tryz.results97, go_sem, z0, z1, z2, z3]) rfl ⟨_, rfl, HO.out, Kept.alloc (((((k0.trans hk1).set (Nat.le_refl _) _).set (Nat.le_refl _) _).set (Nat.le_refl _) _).set (Nat.le_refl _) _) _⟩
  · have hL' : letB (t[a].toNat : Int) = false := by rw [byteN_get t a ha]; simpa using hL
    by_cases hD : digB (byteN t a) = true
    · have hD' : digB (t[a].toNat : Int) = true := by rw [byteN_get t a ha]; exact hD
      have hN := l11Num_ok (w.alloc (.cells #[.int .i64 0, .string ⟨#[]⟩, .int .i64 0, .int .i64 0] 107)) t a (by omega) ht
      have HO : Hid (OneOk t a (.tuple #[tokV 2 ⟨#[]⟩ (numV t a) (a : Nat), .int .i64 (numE t a : Nat), .bool (numOk t a)])) := by
        refine ⟨_, _, _, _, _, _, rfl, fun _ => ⟨by decide, by decide, rfl, ?_, ?_, by decide⟩, fun _ h => absurd h (by decide), fun h => absurd h hL⟩
        · unfold numE
          rw [runE_step ha hD]
          have := (runE_le (p := digB) (t := t) (a + 1)).1
          omega
        · have := (runE_le (p := digB) (t := t) a).2
          unfold numE
          omega
      obtain ⟨n1, hn1⟩ : ∃ n1, numV t a = n1 := ⟨_, rfl⟩
      obtain ⟨e1, he1⟩ : ∃ e1, numE t a = e1 := ⟨_, rfl⟩
      obtain ⟨o1, ho1⟩ : ∃ o1, numOk t a = o1 := ⟨_, rfl⟩
      rw [hn1, ho1, he1] at hN HO
      clear hL hD hn1 he1 ho1
      go_enter Tryz.func97, Tryz.ntmps97
      go_wp2_with (first | (go_at_call 108; refine (l11Letter_ok _ _).mono ?_; rintro e wx ⟨rfl, rfl⟩) | (go_at_call 110; refine (l11Digit_ok _ _).mono ?_; rintro e wx ⟨rfl, rfl⟩) | (go_at_call 111; refine hN.mono ?_; rintro e w1 ⟨rfl, hk1⟩; have y4 := Cells.kept y4 hk1; have c0 := y4.cell 0; have c1 := y4.cell 1; have c2 := y4.cell 2; have c3 := y4.cell 3; have f0 := y4.frozen 0; have f1 := y4.frozen 1; have f2 := y4.frozen 2; have f3 := y4.frozen 3; have l4 := y4.lt))
      have z := ((((y4.set 0 (.int .i64 2)).set 1 (.string ⟨#[]⟩)).set 2 (.int .i64 n1)).set 3 (.int .i64 (a : Nat))).alloc (.cells #[.int .i64 2, .string ⟨#[]⟩, .int .i64 n1, .int .i64 (a : Nat)] 107)
      have z0 := z.cell 0; have z1 := z.cell 1; have z2 := z.cell 2; have z3 := z.cell 3
      refine bodyPost_ret (v := .tuple #[tokV 2 ⟨#[]⟩ n1 (a : Nat), .int .i64 (e1 : Nat), .bool o1]) (by simp [results, Tryz.results97, go_sem, z0, z1, z2, z3]) rfl ⟨_, rfl, HO.out, Kept.alloc (((((k0.trans hk1).set (Nat.le_refl _) _).set (Nat.le_refl _) _).set (Nat.le_refl _) _).set (Nat.le_refl _) _) _⟩
    · have hD' : digB (t[a].toNat : Int) = false := by rw [byteN_get t a ha]; simpa using hD
      by_cases hQ : byteN t a = 34
      · have hQ' : ((t[a].toNat : Int) == 34) = true := by rw [byteN_get t a ha]; simpa using hQ
        have hN := l11Text_ok (w.alloc (.cells #[.int .i64 0, .string ⟨#[]⟩, .int .i64 0, .int .i64 0] 107)) t a ha ht
        have HO : ∃ k s n p to ok, textV t a = .tuple #[tokV k s n p, .int .i64 (to : Nat), .bool ok] ∧ Hid (OneOk t a (.tuple #[tokV k s n p, .int .i64 (to : Nat), .bool ok])) := by
          unfold textV
          split
          · rename_i h
            unfold textOk at h
            simp at h
            refine ⟨_, _, _, _, _, _, rfl, ⟨_, _, _, _, _, _, rfl, fun _ => ⟨by decide, by decide, rfl, ?_, by omega, Nat.le_trans (extract_le _ _ _) ht⟩, fun _ h => absurd h (by decide), fun h => absurd h hL⟩⟩
            have := (runE_le (p := textB) (t := t) (a + 1)).1
            omega
          · exact ⟨_, _, _, _, _, _, rfl, ⟨_, _, _, _, _, _, rfl, fun h => (by cases h), fun h => (by cases h), fun h => absurd h hL⟩⟩
        obtain ⟨k1, s1, n1, p1, e1, o1, he, HO⟩ := HO
        rw [he] at hN
        clear hL hD hQ he
        go_enter Tryz.func97, Tryz.ntmps97
        go_wp2_with (first | (go_at_call 108; refine (l11Letter_ok _ _).mono ?_; rintro e wx ⟨rfl, rfl⟩) | (go_at_call 110; refine (l11Digit_ok _ _).mono ?_; rintro e wx ⟨rfl, rfl⟩) | (go_at_call 112; refine hN.mono ?_; rintro e w1 ⟨rfl, hk1⟩; have y4 := Cells.kept y4 hk1; have c0 := y4.cell 0; have c1 := y4.cell 1; have c2 := y4.cell 2; have c3 := y4.cell 3; have f0 := y4.frozen 0; have f1 := y4.frozen 1; have f2 := y4.frozen 2; have f3 := y4.frozen 3; have l4 := y4.lt))
        have z := ((((y4.set 0 (.int .i64 k1)).set 1 (.string s1)).set 2 (.int .i64 n1)).set 3 (.int .i64 p1)).alloc (.cells #[.int .i64 k1, .string s1, .int .i64 n1, .int .i64 p1] 107)
        have z0 := z.cell 0; have z1 := z.cell 1; have z2 := z.cell 2; have z3 := z.cell 3
        refine bodyPost_ret (v := .tuple #[tokV k1 s1 n1 p1, .int .i64 (e1 : Nat), .bool o1]) (by simp [results, Tryz.results97, go_sem, z0, z1, z2, z3]) rfl ⟨_, rfl, HO.out, Kept.alloc (((((k0.trans hk1).set (Nat.le_refl _) _).set (Nat.le_refl _) _).set (Nat.le_refl _) _).set (Nat.le_refl _) _) _⟩
      · have hQ' : ((t[a].toNat : Int) == 34) = false := by rw [byteN_get t a ha]; simpa using hQ
        have hN := l11Sign_ok (w.alloc (.cells #[.int .i64 0, .string ⟨#[]⟩, .int .i64 0, .int .i64 0] 107)) t a ha ht
        have HO : Hid (OneOk t a (.tuple #[tokV 4 (signT t a) 0 (a : Nat), .int .i64 ((a : Int) + ((signT t a).size : Nat)), .bool (!(signT t a).toList.isEmpty)])) := by
          refine ⟨_, _, _, _, a + (signT t a).size, _, by rw [Int.natCast_add], fun h => ?_, fun _ h => absurd h (by decide), fun h => absurd h hL⟩
          unfold signT at h ⊢
          split
          · rename_i h2
            unfold twoEq at h2
            simp at h2
            refine ⟨by decide, by decide, rfl, ?_, ?_, by decide⟩
            · show a < a + 2
              omega
            · show a + 2 ≤ _
              omega
          · rename_i h2
            rw [if_neg h2] at h
            split
            · have e : (t.extract a (a + 1)).size = 1 := by rw [ByteArray.size_extract]; omega
              refine ⟨by decide, by decide, rfl, by omega, by omega, by omega⟩
            · rename_i h3
              rw [if_neg h3] at h
              exact absurd h (by decide +kernel)
        obtain ⟨s1, hs1⟩ : ∃ s1, signT t a = s1 := ⟨_, rfl⟩
        have hsz : s1.size ≤ 1048576 := by
          rw [← hs1]
          unfold signT
          split
          · decide
          · split
            · exact Nat.le_trans (extract_le _ _ _) ht
            · decide
        rw [hs1] at hN HO
        clear hL hD hQ hs1
        go_enter Tryz.func97, Tryz.ntmps97
        go_wp2_with (first | (go_at_call 108; refine (l11Letter_ok _ _).mono ?_; rintro e wx ⟨rfl, rfl⟩) | (go_at_call 110; refine (l11Digit_ok _ _).mono ?_; rintro e wx ⟨rfl, rfl⟩) | (go_at_call 113; refine hN.mono ?_; rintro e w1 ⟨rfl, hk1⟩; have y4 := Cells.kept y4 hk1; have c0 := y4.cell 0; have c1 := y4.cell 1; have c2 := y4.cell 2; have c3 := y4.cell 3; have f0 := y4.frozen 0; have f1 := y4.frozen 1; have f2 := y4.frozen 2; have f3 := y4.frozen 3; have l4 := y4.lt))
        have z := (((y4.set 0 (.int .i64 4)).set 1 (.string s1)).set 2 (.int .i64 0)).set 3 (.int .i64 (a : Nat))
        have z0 := z.cell 0; have z1 := z.cell 1; have z2 := z.cell 2; have z3 := z.cell 3
        refine bodyPost_ret (v := .tuple #[tokV 4 s1 0 (a : Nat), .int .i64 ((a : Int) + (s1.size : Nat)), .bool (!s1.toList.isEmpty)]) (by simp [results, Tryz.results97, go_sem, z0, z1, z2, z3]) rfl ⟨_, rfl, HO.out, (((((k0.trans hk1).set (Nat.le_refl _) _).set (Nat.le_refl _) _).set (Nat.le_refl _) _).set (Nat.le_refl _) _)⟩
end Go.Proofs.YtejpjbfmjmfnmaaGreatDoor
