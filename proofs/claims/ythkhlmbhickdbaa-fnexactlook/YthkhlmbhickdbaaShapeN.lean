/-
  That chapter 3's model and the program ask the same of a block, as facts on lists.
-/
import Derived.Test.YthkhlmbhickdbaaShapeE
import Derived.Test.YthkhlmbhickdbaaShapeJ
namespace Go.Proofs.Ythkhlmbhickdbaa

theorem wordsR_iff {zs : List Int} {a q s : Nat} : wordsR zs a q s = true ↔ ∀ i : Nat, 1 ≤ i → i < s → wordR zs (roleOf q (hz zs (a + 1)) (i : Nat)) (hz zs (a + i)) = true := by
  unfold wordsR
  rw [List.all_eq_true]
  constructor
  · intro h i h1 h2
    have := h i (List.mem_range.2 h2)
    rwa [show (i == 0) = false by simp; omega, Bool.false_or] at this
  · intro h i hi
    by_cases h0 : i = 0
    · simp [h0]
    · rw [show (i == 0) = false by simpa using h0, Bool.false_or]
      exact h i (by omega) (List.mem_range.1 hi)

theorem vOk_is0 {v : Int} (h : v % 8 = 0) : vOk v = decide (v = 0) := by
  rw [vOk_01 (by omega), Bool.eq_iff_iff]; simp; omega
theorem vOk_is1 {v : Int} (h : v % 8 = 1) : vOk v = decide (v = 1) := by
  rw [vOk_01 (by omega), Bool.eq_iff_iff]; simp; omega
theorem kinds8 (v : Int) : v % 8 = 0 ∨ v % 8 = 1 ∨ v % 8 = 2 ∨ v % 8 = 3 ∨ v % 8 = 4 ∨ v % 8 = 5 ∨ v % 8 = 6 ∨ v % 8 = 7 := by omega

theorem val5 (zs : List Int) (v : Int) : valR zs 5 v = (decide (v = 1) || (decide (v % 8 = 5) && leadsR zs v 0)) := by
  rcases kinds8 v with h | h | h | h | h | h | h | h
  case inr.inl => simp [valR, takesR, h, vOk_is1 h]
  all_goals (
    have e1 : ¬ v = 1 := by omega
    simp [valR, takesR, goalR, leadsR, wantK, h, e1])
theorem val6 (zs : List Int) (v : Int) : valR zs 6 v = nextR zs v 3 := by
  rcases kinds8 v with h | h | h | h | h | h | h | h
  case inl => simp [valR, takesR, nextR, h, vOk_is0 h]
  all_goals (
    have e1 : ¬ v = 0 := by omega
    simp [valR, takesR, goalR, nextR, leadsR, wantK, h, e1])
theorem val9 (zs : List Int) (v : Int) : valR zs 9 v = nextR zs v 5 := by
  rcases kinds8 v with h | h | h | h | h | h | h | h
  case inl => simp [valR, takesR, nextR, h, vOk_is0 h]
  all_goals (
    have e1 : ¬ v = 0 := by omega
    simp [valR, takesR, goalR, nextR, leadsR, wantK, h, e1])
theorem val7 (zs : List Int) (v : Int) : valR zs 7 v = (decide (v % 8 = 4) && leadsR zs v 0) := by
  rcases kinds8 v with h | h | h | h | h | h | h | h
  all_goals simp [valR, takesR, goalR, leadsR, wantK, h]
theorem val8 (zs : List Int) (v : Int) : valR zs 8 v = (decide (v % 8 = 7) && leadsR zs v 5) := by
  rcases kinds8 v with h | h | h | h | h | h | h | h
  all_goals simp [valR, takesR, goalR, leadsR, wantK, h]
theorem val10 (zs : List Int) (v : Int) : valR zs 10 v = plainR zs v := by
  rcases kinds8 v with h | h | h | h | h | h | h | h
  all_goals simp [valR, takesR, goalR, plainR, leadsR, wantK, h]
theorem val11 (zs : List Int) (v : Int) : valR zs 11 v = leadsR zs v 5 := by
  rcases kinds8 v with h | h | h | h | h | h | h | h
  all_goals simp [valR, takesR, goalR, leadsR, wantK, h]

theorem word1 (zs : List Int) (v : Int) : wordR zs 1 v = decide (v = 0) := by simp [wordR]
theorem word2 (zs : List Int) (v : Int) : wordR zs 2 v = true := by simp [wordR]
theorem word3 (zs : List Int) (v : Int) : wordR zs 3 v = decide (0 ≤ v ∧ v ≤ 255) := by simp [wordR]
theorem word4 (zs : List Int) (v : Int) : wordR zs 4 v = decide (0 ≤ v ∧ v ≤ 99) := by simp [wordR]
theorem word5 (zs : List Int) (v : Int) : wordR zs 5 v = (decide (v = 1) || (decide (v % 8 = 5) && leadsR zs v 0)) := by rw [← val5]; simp [wordR]
theorem word6 (zs : List Int) (v : Int) : wordR zs 6 v = nextR zs v 3 := by rw [← val6]; simp [wordR]
theorem word7 (zs : List Int) (v : Int) : wordR zs 7 v = (decide (v % 8 = 4) && leadsR zs v 0) := by rw [← val7]; simp [wordR]
theorem word8 (zs : List Int) (v : Int) : wordR zs 8 v = (decide (v % 8 = 7) && leadsR zs v 5) := by rw [← val8]; simp [wordR]
theorem word9 (zs : List Int) (v : Int) : wordR zs 9 v = nextR zs v 5 := by rw [← val9]; simp [wordR]
theorem word10 (zs : List Int) (v : Int) : wordR zs 10 v = plainR zs v := by rw [← val10]; simp [wordR]

theorem zeroR_iff {zs : List Int} {f n : Nat} : zeroR zs f n = true ↔ ∀ i, i < n → hz zs (f + i) = 0 := by simp [zeroR, allR_iff]
theorem bytesR_iff {zs : List Int} {f n : Nat} : bytesR zs f n = true ↔ ∀ i, i < n → 0 ≤ hz zs (f + i) ∧ hz zs (f + i) ≤ 255 := by simp [bytesR, allR_iff]

theorem blk_free (zs : List Int) (a s : Nat) : blkR zs a s 0 = true := by
  simp only [blkR, sizeR, Bool.true_and]
  exact wordsR_iff.2 (fun i _ _ => by simp [roleOf, wordR])
theorem blk_obj (zs : List Int) (a s : Nat) : blkR zs a s 2 = objR zs a s := by
  rw [Bool.eq_iff_iff]
  simp only [blkR, objR, Bool.and_eq_true, wordsR_iff, zeroR_iff, sizeR, decide_eq_true_eq]
  constructor
  · rintro ⟨hs, hw⟩
    have w1 := hw 1 (by omega) (by omega)
    have w2 := hw 2 (by omega) (by omega)
    rw [show roleOf 2 (hz zs (a + 1)) ((1 : Nat) : Int) = 5 by simp [roleOf], word5] at w1
    rw [show roleOf 2 (hz zs (a + 1)) ((2 : Nat) : Int) = 6 by simp [roleOf], word6] at w2
    refine ⟨⟨⟨by omega, w1⟩, w2⟩, fun i hi => ?_⟩
    have w3 := hw (3 + i) (by omega) (by omega)
    rw [show roleOf 2 (hz zs (a + 1)) ((3 + i : Nat) : Int) = 1 by simp [roleOf, show ¬ ((3 : Int) + i = 1) by omega, show ¬ ((3 : Int) + i = 2) by omega], word1] at w3
    rw [show a + 3 + i = a + (3 + i) by omega]
    simpa using w3
  · rintro ⟨⟨⟨hs, w1⟩, w2⟩, w3⟩
    refine ⟨by omega, fun i h1 h2 => ?_⟩
    rcases (show i = 1 ∨ i = 2 ∨ 3 ≤ i by omega) with rfl | rfl | h
    · rw [show roleOf 2 (hz zs (a + 1)) ((1 : Nat) : Int) = 5 by simp [roleOf], word5]; exact w1
    · rw [show roleOf 2 (hz zs (a + 1)) ((2 : Nat) : Int) = 6 by simp [roleOf], word6]; exact w2
    · rw [show roleOf 2 (hz zs (a + 1)) ((i : Nat) : Int) = 1 by simp [roleOf, show ¬ ((i : Int) = 1) by omega, show ¬ ((i : Int) = 2) by omega], word1]
      have := w3 (i - 3) (by omega)
      rw [show a + 3 + (i - 3) = a + i by omega] at this
      simpa using this
theorem blk_fun (zs : List Int) (a s : Nat) : blkR zs a s 4 = funR zs a s := by
  rw [Bool.eq_iff_iff]
  simp only [blkR, funR, Bool.and_eq_true, wordsR_iff, zeroR_iff, sizeR, decide_eq_true_eq]
  constructor
  · rintro ⟨hs, hw⟩
    have w1 := hw 1 (by omega) (by omega)
    have w2 := hw 2 (by omega) (by omega)
    rw [show roleOf 4 (hz zs (a + 1)) ((1 : Nat) : Int) = 4 by simp [roleOf], word4, decide_eq_true_eq] at w1
    rw [show roleOf 4 (hz zs (a + 1)) ((2 : Nat) : Int) = 8 by simp [roleOf], word8, Bool.and_eq_true, decide_eq_true_eq] at w2
    refine ⟨⟨⟨⟨by omega, w1⟩, w2.1⟩, w2.2⟩, fun i hi => ?_⟩
    have w3 := hw (3 + i) (by omega) (by omega)
    rw [show roleOf 4 (hz zs (a + 1)) ((3 + i : Nat) : Int) = 1 by simp [roleOf, show ¬ ((3 : Int) + i = 1) by omega, show ¬ ((3 : Int) + i = 2) by omega], word1] at w3
    rw [show a + 3 + i = a + (3 + i) by omega]
    simpa using w3
  · rintro ⟨⟨⟨⟨hs, w1⟩, w2⟩, w2'⟩, w3⟩
    refine ⟨by omega, fun i h1 h2 => ?_⟩
    rcases (show i = 1 ∨ i = 2 ∨ 3 ≤ i by omega) with rfl | rfl | h
    · rw [show roleOf 4 (hz zs (a + 1)) ((1 : Nat) : Int) = 4 by simp [roleOf], word4, decide_eq_true_eq]; exact w1
    · rw [show roleOf 4 (hz zs (a + 1)) ((2 : Nat) : Int) = 8 by simp [roleOf], word8, Bool.and_eq_true, decide_eq_true_eq]; exact ⟨w2, w2'⟩
    · rw [show roleOf 4 (hz zs (a + 1)) ((i : Nat) : Int) = 1 by simp [roleOf, show ¬ ((i : Int) = 1) by omega, show ¬ ((i : Int) = 2) by omega], word1]
      have := w3 (i - 3) (by omega)
      rw [show a + 3 + (i - 3) = a + i by omega] at this
      simpa using this
theorem blk_cell (zs : List Int) (a s : Nat) : blkR zs a s 3 = cellR zs a s := by
  rw [Bool.eq_iff_iff]
  simp only [blkR, cellR, Bool.and_eq_true, wordsR_iff, zeroR_iff, sizeR, decide_eq_true_eq]
  constructor
  · rintro ⟨hs, hw⟩
    have w1 := hw 1 (by omega) (by omega)
    have w2 := hw 2 (by omega) (by omega)
    have w3 := hw 3 (by omega) (by omega)
    rw [show roleOf 3 (hz zs (a + 1)) ((1 : Nat) : Int) = 7 by simp [roleOf], word7, Bool.and_eq_true, decide_eq_true_eq] at w1
    rw [show roleOf 3 (hz zs (a + 1)) ((2 : Nat) : Int) = 10 by simp [roleOf], word10] at w2
    rw [show roleOf 3 (hz zs (a + 1)) ((3 : Nat) : Int) = 6 by simp [roleOf], word6] at w3
    refine ⟨⟨⟨⟨⟨by omega, w1.1⟩, w1.2⟩, w2⟩, w3⟩, fun i hi => ?_⟩
    have w4 := hw (4 + i) (by omega) (by omega)
    rw [show roleOf 3 (hz zs (a + 1)) ((4 + i : Nat) : Int) = 1 by simp [roleOf, show ¬ ((4 : Int) + i = 1) by omega, show ¬ ((4 : Int) + i = 2) by omega, show ¬ ((4 : Int) + i = 3) by omega], word1] at w4
    rw [show a + 4 + i = a + (4 + i) by omega]
    simpa using w4
  · rintro ⟨⟨⟨⟨⟨hs, w1⟩, w1'⟩, w2⟩, w3⟩, w4⟩
    refine ⟨by omega, fun i h1 h2 => ?_⟩
    rcases (show i = 1 ∨ i = 2 ∨ i = 3 ∨ 4 ≤ i by omega) with rfl | rfl | rfl | h
    · rw [show roleOf 3 (hz zs (a + 1)) ((1 : Nat) : Int) = 7 by simp [roleOf], word7, Bool.and_eq_true, decide_eq_true_eq]; exact ⟨w1, w1'⟩
    · rw [show roleOf 3 (hz zs (a + 1)) ((2 : Nat) : Int) = 10 by simp [roleOf], word10]; exact w2
    · rw [show roleOf 3 (hz zs (a + 1)) ((3 : Nat) : Int) = 6 by simp [roleOf], word6]; exact w3
    · rw [show roleOf 3 (hz zs (a + 1)) ((i : Nat) : Int) = 1 by simp [roleOf, show ¬ ((i : Int) = 1) by omega, show ¬ ((i : Int) = 2) by omega, show ¬ ((i : Int) = 3) by omega], word1]
      have := w4 (i - 4) (by omega)
      rw [show a + 4 + (i - 4) = a + i by omega] at this
      simpa using this
theorem blk_scope (zs : List Int) (a s : Nat) (hs : 2 ≤ s) : blkR zs a s 5 = scopeR zs a s := by
  rw [Bool.eq_iff_iff]
  simp only [blkR, scopeR, Bool.and_eq_true, wordsR_iff, allR_iff, sizeR, true_and]
  constructor
  · intro hw
    have w1 := hw 1 (by omega) (by omega)
    rw [show roleOf 5 (hz zs (a + 1)) ((1 : Nat) : Int) = 9 by simp [roleOf], word9] at w1
    refine ⟨w1, fun i hi => ?_⟩
    have w2 := hw (2 + i) (by omega) (by omega)
    rw [show roleOf 5 (hz zs (a + 1)) ((2 + i : Nat) : Int) = 10 by simp [roleOf]; omega, word10] at w2
    rw [show a + 2 + i = a + (2 + i) by omega]
    exact w2
  · rintro ⟨w1, w2⟩ i h1 h2
    by_cases h : i = 1
    · subst h
      rw [show roleOf 5 (hz zs (a + 1)) ((1 : Nat) : Int) = 9 by simp [roleOf], word9]; exact w1
    · rw [show roleOf 5 (hz zs (a + 1)) ((i : Nat) : Int) = 10 by simp [roleOf]; omega, word10]
      have := w2 (i - 2) (by omega)
      rw [show a + 2 + (i - 2) = a + i by omega] at this
      exact this
theorem blk_text (zs : List Int) (a s : Nat) : blkR zs a s 1 = textR zs a s := by
  obtain ⟨n, hn⟩ : ∃ n, hz zs (a + 1) = n := ⟨_, rfl⟩
  rw [Bool.eq_iff_iff]
  simp only [blkR, textR, Bool.and_eq_true, wordsR_iff, zeroR_iff, bytesR_iff, sizeR, decide_eq_true_eq, hn]
  constructor
  · rintro ⟨hr, hw⟩
    refine ⟨⟨hr, fun i hi => ?_⟩, fun i hi => ?_⟩
    · have w := hw (2 + n.toNat + i) (by omega) (by omega)
      rw [show roleOf 1 n ((2 + n.toNat + i : Nat) : Int) = 1 by simp only [roleOf]; rw [if_neg (by omega), if_neg (by omega)], word1] at w
      rw [show a + 2 + n.toNat + i = a + (2 + n.toNat + i) by omega]
      simpa using w
    · have w := hw (2 + i) (by omega) (by omega)
      rw [show roleOf 1 n ((2 + i : Nat) : Int) = 3 by simp only [roleOf]; rw [if_neg (by omega), if_pos (by omega)], word3, decide_eq_true_eq] at w
      rw [show a + 2 + i = a + (2 + i) by omega]
      exact w
  · rintro ⟨⟨hr, wz⟩, wb⟩
    refine ⟨hr, fun i h1 h2 => ?_⟩
    by_cases h : i = 1
    · subst h
      rw [show roleOf 1 n ((1 : Nat) : Int) = 2 by simp [roleOf], word2]
    · by_cases hb : (i : Int) - 2 < n
      · rw [show roleOf 1 n ((i : Nat) : Int) = 3 by simp only [roleOf]; rw [if_neg (by omega), if_pos hb], word3, decide_eq_true_eq]
        have := wb (i - 2) (by omega)
        rw [show a + 2 + (i - 2) = a + i by omega] at this
        exact this
      · rw [show roleOf 1 n ((i : Nat) : Int) = 1 by simp only [roleOf]; rw [if_neg (by omega), if_neg hb], word1, decide_eq_true_eq]
        have := wz (i - 2 - n.toNat) (by omega)
        rw [show a + 2 + n.toNat + (i - 2 - n.toNat) = a + i by omega] at this
        exact this
end Go.Proofs.Ythkhlmbhickdbaa
