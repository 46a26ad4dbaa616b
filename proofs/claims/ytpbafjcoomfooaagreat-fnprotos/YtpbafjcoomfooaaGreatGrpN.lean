/-
  That chapter 3's model and the program ask the same of a block, as facts on lists.
  The contracts of chapter 3's models l3Shape, for every kind of block, and ShapeOk.
  The contracts of the program's heapLayout, HeapOk and RootsOk.
-/
import Derived.Test.YtpbafjcoomfooaaGreatShapeE
import Derived.Test.YtpbafjcoomfooaaGreatShapeJ
import Derived.Test.YtpbafjcoomfooaaGreatShapeG
import Derived.Test.YtpbafjcoomfooaaGreatShapeK
import Derived.Test.YtpbafjcoomfooaaGreatShapeL
import Derived.Test.YtpbafjcoomfooaaGreatShapeM
namespace Go.Proofs.YtpbafjcoomfooaaGreat

theorem wordsR_iff {zs : List Int} {a q s : Nat} : wordsR zs a q s = true ↔ ∀ i : Nat, 1 ≤ i → i < s → wordR zs (roleOf q (hz zs (a + 1)) (i : Nat)) (hz zs (a + i)) = true := by
  unfold wordsR
  rw [List.all_eq_true]
  constructor
  · intro h i h1 h2
    have := h i (List.mem_range.2 h2)
    rwa [show (i == 0) = false by simp; omega, Bool.false_or] at this
  · intro h i hi
    by_cases h0 : i = 0
    · simp [h0]
    · rw [show (i == 0) = false by simpa using h0, Bool.false_or]
      exact h i (by omega) (List.mem_range.1 hi)

theorem vOk_is0 {v : Int} (h : v % 8 = 0) : vOk v = decide (v = 0) := by
  rw [vOk_01 (by omega), Bool.eq_iff_iff]; simp; omega
theorem vOk_is1 {v : Int} (h : v % 8 = 1) : vOk v = decide (v = 1) := by
  rw [vOk_01 (by omega), Bool.eq_iff_iff]; simp; omega
theorem kinds8 (v : Int) : v % 8 = 0 ∨ v % 8 = 1 ∨ v % 8 = 2 ∨ v % 8 = 3 ∨ v % 8 = 4 ∨ v % 8 = 5 ∨ v % 8 = 6 ∨ v % 8 = 7 := by omega

theorem val5 (zs : List Int) (v : Int) : valR zs 5 v = (decide (v = 1) || (decide (v % 8 = 5) && leadsR zs v 0)) := by
  rcases kinds8 v with h | h | h | h | h | h | h | h
  case inr.inl => simp [valR, takesR, h, vOk_is1 h]
  all_goals (
    have e1 : ¬ v = 1 := by omega
    simp [valR, takesR, goalR, leadsR, wantK, h, e1])
theorem val6 (zs : List Int) (v : Int) : valR zs 6 v = nextR zs v 3 := by
  rcases kinds8 v with h | h | h | h | h | h | h | h
  case inl => simp [valR, takesR, nextR, h, vOk_is0 h]
  all_goals (
    have e1 : ¬ v = 0 := by omega
    simp [valR, takesR, goalR, nextR, leadsR, wantK, h, e1])
theorem val9 (zs : List Int) (v : Int) : valR zs 9 v = nextR zs v 5 := by
  rcases kinds8 v with h | h | h | h | h | h | h | h
  case inl => simp [valR, takesR, nextR, h, vOk_is0 h]
  all_goals (
    have e1 : ¬ v = 0 := by omega
    simp [valR, takesR, goalR, nextR, leadsR, wantK, h, e1])
theorem val7 (zs : List Int) (v : Int) : valR zs 7 v = (decide (v % 8 = 4) && leadsR zs v 0) := by
  rcases kinds8 v with h | h | h | h | h | h | h | h
  all_goals simp [valR, takesR, goalR, leadsR, wantK, h]
theorem val8 (zs : List Int) (v : Int) : valR zs 8 v = (decide (v % 8 = 7) && leadsR zs v 5) := by
  rcases kinds8 v with h | h | h | h | h | h | h | h
  all_goals simp [valR, takesR, goalR, leadsR, wantK, h]
theorem val10 (zs : List Int) (v : Int) : valR zs 10 v = plainR zs v := by
  rcases kinds8 v with h | h | h | h | h | h | h | h
  all_goals simp [valR, takesR, goalR, plainR, leadsR, wantK, h]
theorem val11 (zs : List Int) (v : Int) : valR zs 11 v = leadsR zs v 5 := by
  rcases kinds8 v with h | h | h | h | h | h | h | h
  all_goals simp [valR, takesR, goalR, leadsR, wantK, h]

theorem word1 (zs : List Int) (v : Int) : wordR zs 1 v = decide (v = 0) := by simp [wordR]
theorem word2 (zs : List Int) (v : Int) : wordR zs 2 v = true := by simp [wordR]
theorem word3 (zs : List Int) (v : Int) : wordR zs 3 v = decide (0 ≤ v ∧ v ≤ 255) := by simp [wordR]
theorem word4 (zs : List Int) (v : Int) : wordR zs 4 v = decide (0 ≤ v ∧ v ≤ 99) := by simp [wordR]
theorem word5 (zs : List Int) (v : Int) : wordR zs 5 v = (decide (v = 1) || (decide (v % 8 = 5) && leadsR zs v 0)) := by rw [← val5]; simp [wordR]
theorem word6 (zs : List Int) (v : Int) : wordR zs 6 v = nextR zs v 3 := by rw [← val6]; simp [wordR]
theorem word7 (zs : List Int) (v : Int) : wordR zs 7 v = (decide (v % 8 = 4) && leadsR zs v 0) := by rw [← val7]; simp [wordR]
theorem word8 (zs : List Int) (v : Int) : wordR zs 8 v = (decide (v % 8 = 7) && leadsR zs v 5) := by rw [← val8]; simp [wordR]
theorem word9 (zs : List Int) (v : Int) : wordR zs 9 v = nextR zs v 5 := by rw [← val9]; simp [wordR]
theorem word10 (zs : List Int) (v : Int) : wordR zs 10 v = plainR zs v := by rw [← val10]; simp [wordR]

theorem zeroR_iff {zs : List Int} {f n : Nat} : zeroR zs f n = true ↔ ∀ i, i < n → hz zs (f + i) = 0 := by simp [zeroR, allR_iff]
theorem bytesR_iff {zs : List Int} {f n : Nat} : bytesR zs f n = true ↔ ∀ i, i < n → 0 ≤ hz zs (f + i) ∧ hz zs (f + i) ≤ 255 := by simp [bytesR, allR_iff]

theorem blk_free (zs : List Int) (a s : Nat) : blkR zs a s 0 = true := by
  simp only [blkR, sizeR, Bool.true_and]
  exact wordsR_iff.2 (fun i _ _ => by simp [roleOf, wordR])
theorem blk_obj (zs : List Int) (a s : Nat) : blkR zs a s 2 = objR zs a s := by
  rw [Bool.eq_iff_iff]
  simp only [blkR, objR, Bool.and_eq_true, wordsR_iff, zeroR_iff, sizeR, decide_eq_true_eq]
  constructor
  · rintro ⟨hs, hw⟩
    have w1 := hw 1 (by omega) (by omega)
    have w2 := hw 2 (by omega) (by omega)
    rw [show roleOf 2 (hz zs (a + 1)) ((1 : Nat) : Int) = 5 by simp [roleOf], word5] at w1
    rw [show roleOf 2 (hz zs (a + 1)) ((2 : Nat) : Int) = 6 by simp [roleOf], word6] at w2
    refine ⟨⟨⟨by omega, w1⟩, w2⟩, fun i hi => ?_⟩
    have w3 := hw (3 + i) (by omega) (by omega)
    rw [show roleOf 2 (hz zs (a + 1)) ((3 + i : Nat) : Int) = 1 by simp [roleOf, show ¬ ((3 : Int) + i = 1) by omega, show ¬ ((3 : Int) + i = 2) by omega], word1] at w3
    rw [show a + 3 + i = a + (3 + i) by omega]
    simpa using w3
  · rintro ⟨⟨⟨hs, w1⟩, w2⟩, w3⟩
    refine ⟨by omega, fun i h1 h2 => ?_⟩
    rcases (show i = 1 ∨ i = 2 ∨ 3 ≤ i by omega) with rfl | rfl | h
    · rw [show roleOf 2 (hz zs (a + 1)) ((1 : Nat) : Int) = 5 by simp [roleOf], word5]; exact w1
    · rw [show roleOf 2 (hz zs (a + 1)) ((2 : Nat) : Int) = 6 by simp [roleOf], word6]; exact w2
    · rw [show roleOf 2 (hz zs (a + 1)) ((i : Nat) : Int) = 1 by simp [roleOf, show ¬ ((i : Int) = 1) by omega, show ¬ ((i : Int) = 2) by omega], word1]
      have := w3 (i - 3) (by omega)
      rw [show a + 3 + (i - 3) = a + i by omega] at this
      simpa using this
theorem blk_fun (zs : List Int) (a s : Nat) : blkR zs a s 4 = funR zs a s := by
  rw [Bool.eq_iff_iff]
  simp only [blkR, funR, Bool.and_eq_true, wordsR_iff, zeroR_iff, sizeR, decide_eq_true_eq]
  constructor
  · rintro ⟨hs, hw⟩
    have w1 := hw 1 (by omega) (by omega)
    have w2 := hw 2 (by omega) (by omega)
    rw [show roleOf 4 (hz zs (a + 1)) ((1 : Nat) : Int) = 4 by simp [roleOf], word4, decide_eq_true_eq] at w1
    rw [show roleOf 4 (hz zs (a + 1)) ((2 : Nat) : Int) = 8 by simp [roleOf], word8, Bool.and_eq_true, decide_eq_true_eq] at w2
    refine ⟨⟨⟨⟨by omega, w1⟩, w2.1⟩, w2.2⟩, fun i hi => ?_⟩
    have w3 := hw (3 + i) (by omega) (by omega)
    rw [show roleOf 4 (hz zs (a + 1)) ((3 + i : Nat) : Int) = 1 by simp [roleOf, show ¬ ((3 : Int) + i = 1) by omega, show ¬ ((3 : Int) + i = 2) by omega], word1] at w3
    rw [show a + 3 + i = a + (3 + i) by omega]
    simpa using w3
  · rintro ⟨⟨⟨⟨hs, w1⟩, w2⟩, w2'⟩, w3⟩
    refine ⟨by omega, fun i h1 h2 => ?_⟩
    rcases (show i = 1 ∨ i = 2 ∨ 3 ≤ i by omega) with rfl | rfl | h
    · rw [show roleOf 4 (hz zs (a + 1)) ((1 : Nat) : Int) = 4 by simp [roleOf], word4, decide_eq_true_eq]; exact w1
    · rw [show roleOf 4 (hz zs (a + 1)) ((2 : Nat) : Int) = 8 by simp [roleOf], word8, Bool.and_eq_true, decide_eq_true_eq]; exact ⟨w2, w2'⟩
    · rw [show roleOf 4 (hz zs (a + 1)) ((i : Nat) : Int) = 1 by simp [roleOf, show ¬ ((i : Int) = 1) by omega, show ¬ ((i : Int) = 2) by omega], word1]
      have := w3 (i - 3) (by omega)
      rw [show a + 3 + (i - 3) = a + i by omega] at this
      simpa using this
theorem blk_cell (zs : List Int) (a s : Nat) : blkR zs a s 3 = cellR zs a s := by
  rw [Bool.eq_iff_iff]
  simp only [blkR, cellR, Bool.and_eq_true, wordsR_iff, zeroR_iff, sizeR, decide_eq_true_eq]
  constructor
  · rintro ⟨hs, hw⟩
    have w1 := hw 1 (by omega) (by omega)
    have w2 := hw 2 (by omega) (by omega)
    have w3 := hw 3 (by omega) (by omega)
    rw [show roleOf 3 (hz zs (a + 1)) ((1 : Nat) : Int) = 7 by simp [roleOf], word7, Bool.and_eq_true, decide_eq_true_eq] at w1
    rw [show roleOf 3 (hz zs (a + 1)) ((2 : Nat) : Int) = 10 by simp [roleOf], word10] at w2
    rw [show roleOf 3 (hz zs (a + 1)) ((3 : Nat) : Int) = 6 by simp [roleOf], word6] at w3
    refine ⟨⟨⟨⟨⟨by omega, w1.1⟩, w1.2⟩, w2⟩, w3⟩, fun i hi => ?_⟩
    have w4 := hw (4 + i) (by omega) (by omega)
    rw [show roleOf 3 (hz zs (a + 1)) ((4 + i : Nat) : Int) = 1 by simp [roleOf, show ¬ ((4 : Int) + i = 1) by omega, show ¬ ((4 : Int) + i = 2) by omega, show ¬ ((4 : Int) + i = 3) by omega], word1] at w4
    rw [show a + 4 + i = a + (4 + i) by omega]
    simpa using w4
  · rintro ⟨⟨⟨⟨⟨hs, w1⟩, w1'⟩, w2⟩, w3⟩, w4⟩
    refine ⟨by omega, fun i h1 h2 => ?_⟩
    rcases (show i = 1 ∨ i = 2 ∨ i = 3 ∨ 4 ≤ i by omega) with rfl | rfl | rfl | h
    · rw [show roleOf 3 (hz zs (a + 1)) ((1 : Nat) : Int) = 7 by simp [roleOf], word7, Bool.and_eq_true, decide_eq_true_eq]; exact ⟨w1, w1'⟩
    · rw [show roleOf 3 (hz zs (a + 1)) ((2 : Nat) : Int) = 10 by simp [roleOf], word10]; exact w2
    · rw [show roleOf 3 (hz zs (a + 1)) ((3 : Nat) : Int) = 6 by simp [roleOf], word6]; exact w3
    · rw [show roleOf 3 (hz zs (a + 1)) ((i : Nat) : Int) = 1 by simp [roleOf, show ¬ ((i : Int) = 1) by omega, show ¬ ((i : Int) = 2) by omega, show ¬ ((i : Int) = 3) by omega], word1]
      have := w4 (i - 4) (by omega)
      rw [show a + 4 + (i - 4) = a + i by omega] at this
      simpa using this
theorem blk_scope (zs : List Int) (a s : Nat) (hs : 2 ≤ s) : blkR zs a s 5 = scopeR zs a s := by
  rw [Bool.eq_iff_iff]
  simp only [blkR, scopeR, Bool.and_eq_true, wordsR_iff, allR_iff, sizeR, true_and]
  constructor
  · intro hw
    have w1 := hw 1 (by omega) (by omega)
    rw [show roleOf 5 (hz zs (a + 1)) ((1 : Nat) : Int) = 9 by simp [roleOf], word9] at w1
    refine ⟨w1, fun i hi => ?_⟩
    have w2 := hw (2 + i) (by omega) (by omega)
    rw [show roleOf 5 (hz zs (a + 1)) ((2 + i : Nat) : Int) = 10 by simp [roleOf]; omega, word10] at w2
    rw [show a + 2 + i = a + (2 + i) by omega]
    exact w2
  · rintro ⟨w1, w2⟩ i h1 h2
    by_cases h : i = 1
    · subst h
      rw [show roleOf 5 (hz zs (a + 1)) ((1 : Nat) : Int) = 9 by simp [roleOf], word9]; exact w1
    · rw [show roleOf 5 (hz zs (a + 1)) ((i : Nat) : Int) = 10 by simp [roleOf]; omega, word10]
      have := w2 (i - 2) (by omega)
      rw [show a + 2 + (i - 2) = a + i by omega] at this
      exact this
theorem blk_text (zs : List Int) (a s : Nat) : blkR zs a s 1 = textR zs a s := by
  obtain ⟨n, hn⟩ : ∃ n, hz zs (a + 1) = n := ⟨_, rfl⟩
  rw [Bool.eq_iff_iff]
  simp only [blkR, textR, Bool.and_eq_true, wordsR_iff, zeroR_iff, bytesR_iff, sizeR, decide_eq_true_eq, hn]
  constructor
  · rintro ⟨hr, hw⟩
    refine ⟨⟨hr, fun i hi => ?_⟩, fun i hi => ?_⟩
    · have w := hw (2 + n.toNat + i) (by omega) (by omega)
      rw [show roleOf 1 n ((2 + n.toNat + i : Nat) : Int) = 1 by simp only [roleOf]; rw [if_neg (by omega), if_neg (by omega)], word1] at w
      rw [show a + 2 + n.toNat + i = a + (2 + n.toNat + i) by omega]
      simpa using w
    · have w := hw (2 + i) (by omega) (by omega)
      rw [show roleOf 1 n ((2 + i : Nat) : Int) = 3 by simp only [roleOf]; rw [if_neg (by omega), if_pos (by omega)], word3, decide_eq_true_eq] at w
      rw [show a + 2 + i = a + (2 + i) by omega]
      exact w
  · rintro ⟨⟨hr, wz⟩, wb⟩
    refine ⟨hr, fun i h1 h2 => ?_⟩
    by_cases h : i = 1
    · subst h
      rw [show roleOf 1 n ((1 : Nat) : Int) = 2 by simp [roleOf], word2]
    · by_cases hb : (i : Int) - 2 < n
      · rw [show roleOf 1 n ((i : Nat) : Int) = 3 by simp only [roleOf]; rw [if_neg (by omega), if_pos hb], word3, decide_eq_true_eq]
        have := wb (i - 2) (by omega)
        rw [show a + 2 + (i - 2) = a + i by omega] at this
        exact this
      · rw [show roleOf 1 n ((i : Nat) : Int) = 1 by simp only [roleOf]; rw [if_neg (by omega), if_neg hb], word1, decide_eq_true_eq]
        have := wz (i - 2 - n.toNat) (by omega)
        rw [show a + 2 + n.toNat + (i - 2 - n.toNat) = a + i by omega] at this
        exact this
end Go.Proofs.YtpbafjcoomfooaaGreat
namespace Go.Proofs.YtpbafjcoomfooaaGreat
open Go.RowKit
attribute [local go_sem] Plain.and7

set_option maxHeartbeats 4000000 in
set_option maxRecDepth 100000 in
theorem l3Shape_free (w : World) (ao : Option Addr) (cap : Nat) (zs : List Int) (a s : Nat) (hI : Ints w ao zs) (hle : a + s ≤ zs.length) (hs : 2 ≤ s) (hz9 : hz zs a % 8 = 0) :
    Calls Tryz.prog 85 #[.agg #[.slice ao zs.length cap], .int .i64 a] w fun e w' => e = .returned (.bool true) ∧ Kept w w' := by
  have b0 := Cells.new w 26 #[.slice ao zs.length cap]
  have k0 : Kept w (w.alloc (.cells #[.slice ao zs.length cap] 26)) := Kept.alloc (Below.refl _ _) _
  have c0 := b0.cell 0
  obtain ⟨bb, off, rfl, hc⟩ := hI.at (k := 0) (by omega)
  have hck := hc a (by omega)
  have hbl : bb < w.heap.size := World.block_lt_of_cell? _ _ hck
  have hltI : (a : Int) < (zs.length : Int) := by omega
  clear hc hI
  go_enter Tryz.func85, Tryz.ntmps85
  go_wp2_with (first | (go_at_call 95; refine (l2Size_ok _ _).mono ?_; rintro e wx ⟨rfl, rfl⟩) | (go_at_call 96; refine (l2Kind_ok _ _).mono ?_; rintro e wx ⟨rfl, rfl⟩))
  go_ret
  exact ⟨rfl, k0⟩
set_option maxHeartbeats 4000000 in
set_option maxRecDepth 100000 in
theorem l3Shape_text (w : World) (ao : Option Addr) (cap : Nat) (zs : List Int) (a s : Nat) (hI : Ints w ao zs) (hl : zs.length ≤ 1048576) (hle : a + s ≤ zs.length) (hs : 2 ≤ s) (hz8 : hz zs a / 8 = (s : Int)) (hz9 : hz zs a % 8 = 1) :
    Calls Tryz.prog 85 #[.agg #[.slice ao zs.length cap], .int .i64 a] w fun e w' => e = .returned (.bool (textR zs a s)) ∧ Kept w w' := by
  have b0 := Cells.new w 26 #[.slice ao zs.length cap]
  have k0 : Kept w (w.alloc (.cells #[.slice ao zs.length cap] 26)) := Kept.alloc (Below.refl _ _) _
  have c0 := b0.cell 0
  have hT := l3Text_ok _ ao cap zs a s (hI.kept k0) hl hle hs
  obtain ⟨bb, off, rfl, hc⟩ := hI.at (k := 0) (by omega)
  have hck := hc a (by omega)
  have hbl : bb < w.heap.size := World.block_lt_of_cell? _ _ hck
  have hltI : (a : Int) < (zs.length : Int) := by omega
  clear hc hI
  go_enter Tryz.func85, Tryz.ntmps85
  go_wp2_with (first | (go_at_call 95; refine (l2Size_ok _ _).mono ?_; rintro e wx ⟨rfl, rfl⟩) | (go_at_call 96; refine (l2Kind_ok _ _).mono ?_; rintro e wx ⟨rfl, rfl⟩) | (go_at_call 123; refine hT.mono ?_; rintro e w1 ⟨rfl, hk1⟩))
  go_ret
  exact ⟨rfl, k0.trans hk1⟩
theorem l3Shape_ok (w : World) (ao : Option Addr) (cap : Nat) (zs : List Int) (b : BkOf zs.length) (hI : Ints w ao zs) (hl : zs.length ≤ 1048576) (hok : slabOk zs = true) (hg : Good zs b.1.at') (hs : b.1.size = sz zs b.1.at') (hq : b.1.kind = kd zs b.1.at') :
    Calls Tryz.prog 85 #[.agg #[.slice ao zs.length cap], .int .i64 ((b.1.at' : Nat) : Int)] w fun e w' => e = .returned (.bool (blkR zs b.1.at' b.1.size b.1.kind)) ∧ Kept w w' := by
  obtain ⟨⟨a, s, q⟩, h2, hle, h5⟩ := b
  simp only at hg hs hq h2 hle h5 ⊢
  have e8 : hz zs a / 8 = (s : Int) := by rw [hs, hg.szI]
  have e9 : hz zs a % 8 = (q : Int) := by rw [hq, kdI]
  rcases (show q = 0 ∨ q = 1 ∨ q = 2 ∨ q = 3 ∨ q = 4 ∨ q = 5 by omega) with h | h | h | h | h | h
  all_goals rw [h] at e9 ⊢
  · rw [blk_free]; exact l3Shape_free w ao cap zs a s hI hle h2 e9
  · rw [blk_text]; exact l3Shape_text w ao cap zs a s hI hl hle h2 e8 e9
  · rw [blk_obj]; exact l3Shape_obj w ao cap zs a s hI hl hok hle h2 e8 e9
  · rw [blk_cell]; exact l3Shape_cell w ao cap zs a s hI hl hok hle h2 e8 e9
  · rw [blk_fun]; exact l3Shape_fun w ao cap zs a s hI hl hok hle h2 e8 e9
  · rw [blk_scope _ _ _ h2]; exact l3Shape_scope w ao cap zs a s hI hl hok hle h2 e8 e9
end Go.Proofs.YtpbafjcoomfooaaGreat
namespace Go.Proofs.YtpbafjcoomfooaaGreat
open Go.RowKit Go.Shelf
attribute [local go_sem] Oper.semAt_some

/-- Each of some blocks is as its kind asks. -/
def allB (zs : List Int) (l : List (BkOf zs.length)) : Bool := l.all (fun b => blkR zs b.1.at' b.1.size b.1.kind)
/-- The slab is right, and each block of it. -/
def heapR (zs : List Int) : Bool := slabOk zs && allB zs (blocks zs)
theorem allB_snoc (zs : List Int) (l : List (BkOf zs.length)) (b : BkOf zs.length) : allB zs (l ++ [b]) = (allB zs l && blkR zs b.1.at' b.1.size b.1.kind) := by simp [allB]
theorem allB_pre {zs : List Int} {l m : List (BkOf zs.length)} (h : l <+: m) (hf : allB zs l = false) : allB zs m = false := by
  obtain ⟨r, e⟩ := h
  rw [← e, allB, List.all_append, show l.all (fun b => blkR zs b.1.at' b.1.size b.1.kind) = false from hf, Bool.false_and]

theorem Ints.apart {W : World} {ao : Option Addr} {zs : List Int} (h : Ints W ao zs) {B : Nat} {t : TypeId} {cs : Array Value} (hc : Cells W B t cs) (hn : ∀ (j : Nat) (n : Int), cs[j]? ≠ some (Value.int .i64 n)) : ∀ a, zs ≠ [] → ao = some a → a.block ≠ B := by
  intro a hne e hb
  have hpos : 0 < zs.length := List.length_pos_iff.2 hne
  obtain ⟨b, off, e', hcell⟩ := h.at hpos
  rw [e] at e'
  cases e'
  have hx := hcell 0 hpos
  simp only at hb
  subst hb
  rw [hc.cell (off + 0)] at hx
  exact hn _ _ hx
theorem Kept.others {W W' : World} (h : Kept W W') : KeepsOthers W W' := KeepsOthers.of_grownBy h.grown (fun _ _ e _ => by cases e)
set_option maxRecDepth 100000 in
set_option maxHeartbeats 4000000 in
theorem heapLayout_ok (w : World) (ao : Option Addr) (cap : Nat) (zs : List Int) (hI : Ints w ao zs) (hl : zs.length ≤ 1048576) :
    Calls Tryz.prog 47 #[.agg #[.slice ao zs.length cap]] w fun e w' => (heapR zs = false → e = .returned (.tuple #[.slice none 0 0, .bool false])) ∧ (heapR zs = true → ∃ lo lc, e = .returned (.tuple #[.slice lo zs.length lc, .bool true]) ∧ Ints w' lo (lyt zs)) ∧ Kept w w' := by
  have hL : zs.length * 8 ≤ 140737488351232 := by omega
  have b0 := ((Cells.new w 26 #[.slice ao zs.length cap]).alloc (.cells #[.slice none 0 0] 60)).alloc (.cells #[.bool false] 4)
  have b1 := (Cells.new (w.alloc (.cells #[.slice ao zs.length cap] 26)) 60 #[.slice none 0 0]).alloc (.cells #[.bool false] 4)
  have b2 := Cells.new ((w.alloc (.cells #[.slice ao zs.length cap] 26)).alloc (.cells #[.slice none 0 0] 60)) 4 #[.bool false]
  simp only [World.size_alloc] at b0 b1 b2
  have k0 : Kept w (((w.alloc (.cells #[.slice ao zs.length cap] 26)).alloc (.cells #[.slice none 0 0] 60)).alloc (.cells #[.bool false] 4)) := ((Kept.alloc (Below.refl _ _) _).alloc _).alloc _
  have hLo := layoutOf_ok _ ao cap zs (hI.kept k0) hl
  have hsz0 : (((w.alloc (.cells #[.slice ao zs.length cap] 26)).alloc (.cells #[.slice none 0 0] 60)).alloc (.cells #[.bool false] 4)).heap.size = w.heap.size + 3 := by simp
  cases hok : slabOk zs with
  | false =>
    have HR : Hid (heapR zs = false) := by simp [Hid, heapR, hok]
    have hLo' := hLo.mono (R' := fun e w' => e = .returned (.tuple #[.slice none 0 0, .bool false]) ∧ Kept (((w.alloc (.cells #[.slice ao zs.length cap] 26)).alloc (.cells #[.slice none 0 0] 60)).alloc (.cells #[.bool false] 4)) w') (fun e w' h => ⟨h.1 hok, h.2.2⟩)
    clear hok hLo hI
    go_enter Tryz.func47, Tryz.ntmps47
    go_wp2_with (go_at_call 97; refine hLo'.mono ?_; rintro e w1 ⟨rfl, hk1⟩; have hs1 := hk1.size; rw [hsz0] at hs1; have b1' := b1.kept hk1; have b2' := b2.kept hk1; have c1 := b1'.cell 0; have f1 := b1'.frozen 0; have c2 := b2'.cell 0; have f2 := b2'.frozen 0; have l1 := b1'.lt; have l2 := b2'.lt)
    have q1 := ((b1'.set1 (.slice none 0 0)).other (p := ⟨w.heap.size + 1 + 1, 0, none⟩) (by simp) (.bool false)).alloc (.cells #[.slice none 0 0] 60)
    have q2 := ((b2'.other (p := ⟨w.heap.size + 1, 0, none⟩) (by simp) (.slice none 0 0)).set1 (.bool false)).alloc (.cells #[.slice none 0 0] 60)
    refine bodyPost_ret (v := .tuple #[.slice none 0 0, .bool false]) (by simp [results, Tryz.results47, go_sem, q1.cell 0, q2.cell 0]) rfl ⟨fun _ => rfl, fun h => absurd (HR.out.symm.trans h) (by simp), ?_⟩
    exact (((k0.trans hk1).set (p := ⟨w.heap.size + 1, 0, none⟩) (by simp) _).set (p := ⟨w.heap.size + 1 + 1, 0, none⟩) (by simp; omega) _).alloc _
  | true =>
    have hLo' := hLo.mono (R' := fun e w' => ∃ lo lc, e = .returned (.tuple #[.slice lo zs.length lc, .bool true]) ∧ Ints w' lo (lyt zs) ∧ Kept (((w.alloc (.cells #[.slice ao zs.length cap] 26)).alloc (.cells #[.slice none 0 0] 60)).alloc (.cells #[.bool false] 4)) w') (fun e w' h => by obtain ⟨lo, lc, h1, h2⟩ := h.2.1 hok; exact ⟨lo, lc, h1, h2, h.2.2⟩)
    have HE : Hid (heapR zs = allB zs (blocks zs)) := by simp [Hid, heapR, hok]
    clear hLo hok
    refine (callsIn_wide (n := 3)).1 ?_
    refine callsIn_of_wp_marks Tryz.func47 rfl trivial ?_ rfl
    simp only [Tryz.ntmps47, List.size_toArray, List.length_cons, List.length_nil, Nat.reduceAdd, Nat.reduceSub, Array.replicate_succ, Array.replicate_zero, List.push_toArray, List.append_toArray, List.nil_append, List.cons_append]
    refine wpIn_wide.2 ?_
    go_wp2_with fail
    refine hLo'.mono ?_
    rintro e w1 ⟨lo, lc, rfl, hLy, hk1⟩
    have hs1 := hk1.size
    rw [hsz0] at hs1
    have x0 := b0.kept hk1
    have cx0 := x0.cell 0
    have lx0 := x0.lt
    go_wp2_with (go_at_call 98; refine (blocksOf_ok _ _ _ _).mono ?_; rintro e w5 ⟨rfl, rfl⟩)
    have ka : Kept w1 ((w1.alloc (.cells #[.slice lo zs.length lc] 60)).alloc (.cells #[.slice ao zs.length cap] 24)) := (Kept.alloc (Below.refl _ _) _).alloc _
    have xl := (Cells.new w1 60 #[.slice lo zs.length lc]).alloc (.cells #[.slice ao zs.length cap] 24)
    have bB := Cells.new (w1.alloc (.cells #[.slice lo zs.length lc] 60)) 24 #[.slice ao zs.length cap]
    simp only [World.size_alloc] at bB
    have y0 := x0.kept ka
    have y1 := (b1.kept hk1).kept ka
    have y2 := (b2.kept hk1).kept ka
    have ly := hLy.kept ka
    have ky := (k0.trans hk1).trans ka
    have hsz : ((w1.alloc (.cells #[.slice lo zs.length lc] 60)).alloc (.cells #[.slice ao zs.length cap] 24)).heap.size = w1.heap.size + 2 := by simp
    obtain ⟨W0, hW0⟩ : ∃ W0, (w1.alloc (.cells #[.slice lo zs.length lc] 60)).alloc (.cells #[.slice ao zs.length cap] 24) = W0 := ⟨_, rfl⟩
    rw [hW0] at xl bB y0 y1 y2 ly ky hsz ⊢
    clear hW0 hLo' hLy x0 cx0 lx0 ka b0 b1 b2 k0 hk1 hsz0
    refine (wpIn_wide (n := 3)).1 ?_
    refine range_blocks (X := fun k => k = w.heap.size + 1 ∨ k = w.heap.size + 1 + 1) (nX := w.heap.size + 3) (zs := zs) (ao := ao) (cap := cap) (by omega) rfl (by simp) (by simp) (by decide) hL hI ky (by intro k h; omega) (by intro k h; omega) (by intro k h; omega) (by omega) bB
      (fun pre W => allB zs pre = true ∧ Below W0.heap.size W0 W)
      (fun c pre W => c = .ret ∧ allB zs pre = false ∧ (Cells W (w.heap.size + 1) 60 #[.slice none 0 0] ∧ Cells W (w.heap.size + 1 + 1) 4 #[.bool false]) ∧ Below w.heap.size w W)
      (OwnFrom.and (fun _ _ _ _ h _ _ => h) (ownFrom_below (Nat.le_refl _) (Nat.le_refl _))) ?ox ⟨rfl, Below.refl _ _⟩ ?body ?done ?stop
    case ox =>
      rintro c s Y Z row ⟨h1, h2, ⟨h3, h4⟩, hB⟩ hg hr
      exact ⟨h1, h2, ⟨Own.from (Cells.own _ _ (fun _ : Unit => _)) W0.heap.size () Y Z row h3 hg hr, Own.from (Cells.own _ _ (fun _ : Unit => _)) W0.heap.size () Y Z row h4 hg hr⟩, ownFrom_below (Nat.le_refl _) (by omega) s Y Z row hB hg hr⟩
    case body =>
      rintro l pre x W Bx hBx bX ⟨hp, hB1⟩ hlt
      have hx := x.2
      have c0 := bX.cell 0
      have c1 := bX.cell 1
      have c2 := bX.cell 2
      have d0 := (y0.kept hB1).cell 0
      have dl := (xl.kept hB1).cell 0
      have d1 := y1.kept hB1
      have d2 := y2.kept hB1
      have hBk := fun (u : World) (hu : Kept W u) => blockOk_ok u lo ao lc cap zs x.1.at' x.1.size x.1.kind ((ly.kept hB1).kept hu) ((hI.kept ky).kept (Kept.trans hB1 hu)) hl hx.2.1 hx.1 hx.2.2
      simp only [List.setIfInBounds_toArray, List.set_cons_succ, List.set_cons_zero]
      cases hv : blkR zs x.1.at' x.1.size x.1.kind with
      | true =>
        have HP : Hid (allB zs (pre ++ [x]) = true) := by show _ = _; rw [allB_snoc, hp, hv]; rfl
        rw [hv] at hBk
        clear hv hp
        gi_wp2_with (refine ⟨trivial, ?_⟩; gi_at_call 99; refine (CallsIn.inRound l (callsIn_wide.2 (hBk _ (Below.refl _ _)))).mono ?_; rintro e w4 ⟨rfl, hk4⟩)
        exact ⟨hk4.others.from _, KeepX.of hk4, HP.out, Kept.trans hB1 hk4⟩
      | false =>
        have HP : Hid (allB zs (pre ++ [x]) = false) := by show _ = _; rw [allB_snoc, hv, Bool.and_false]
        rw [hv] at hBk
        clear hv hp
        gi_wp2_with (refine ⟨trivial, ?_⟩; gi_at_call 99; refine (CallsIn.inRound l (callsIn_wide.2 (hBk _ (Below.refl _ _)))).mono ?_; rintro e w4 ⟨rfl, hk4⟩; have e1 := d1.kept hk4; have e2 := d2.kept hk4; have ce1 := e1.cell 0; have fe1 := e1.frozen 0; have ce2 := e2.cell 0; have fe2 := e2.frozen 0)
        refine ⟨((hk4.others.trans (KeepsOthers.setCell _ _ _)).trans (KeepsOthers.setCell _ _ _)).from _, rfl, HP.out, ⟨(e1.set1 _).other (by simp) _, (e2.other (by simp) _).set1 _⟩, (((ky.trans hB1).trans hk4).set (p := ⟨w.heap.size + 1, 0, none⟩) (by simp) _).set (p := ⟨w.heap.size + 1 + 1, 0, none⟩) (by simp; omega) _⟩
    case done =>
      rintro D W hD ⟨hp, hB1⟩ hK
      have d1 := y1.kept hB1
      have d2 := y2.kept hB1
      have dl := (xl.kept hB1).cell 0
      have e1 := d1.cell 0
      have f1 := d1.frozen 0
      have e2 := d2.cell 0
      have f2 := d2.frozen 0
      have HV : Hid (heapR zs = true) := by show _ = _; rw [HE.out]; exact hp
      clear hp
      go_wp2
      have hK' := ((KeepsOthers.setCell W ⟨w.heap.size + 1, 0, none⟩ (.slice lo zs.length lc)).trans (KeepsOthers.setCell _ ⟨w.heap.size + 1 + 1, 0, none⟩ (.bool true))).same D _ hK rfl
      refine ⟨by simp, .inl ⟨_, _, rfl, run_takeDeferred hK', ?_⟩⟩
      have q1 := ((d1.set1 (.slice lo zs.length lc)).other (p := ⟨w.heap.size + 1 + 1, 0, none⟩) (by simp) (.bool true)).put hK' rfl (.deferred none)
      have q2 := ((d2.other (p := ⟨w.heap.size + 1, 0, none⟩) (by simp) (.slice lo zs.length lc)).set1 (.bool true)).put hK' rfl (.deferred none)
      refine ⟨.tuple #[.slice lo zs.length lc, .bool true], by simp [results, Tryz.results47, go_sem, q1.cell 0, q2.cell 0], fun h => absurd (HV.out.symm.trans h) (by simp), fun _ => ⟨_, _, rfl, ?_⟩, ?_⟩
      · refine (((KeepX.of hB1).t (KeepX.setCell (X := fun k => k = w.heap.size + 1 ∨ k = w.heap.size + 1 + 1) (nI := W0.heap.size) (p := ⟨w.heap.size + 1, 0, none⟩) (.inl rfl) _)).t ((KeepX.setCell (p := ⟨w.heap.size + 1 + 1, 0, none⟩) (.inr rfl) _).t (KeepX.b _ D _ _ hK' rfl))).ints ly (fun a hne e => ⟨?_, ly.lt hne e⟩)
        have n1 := ly.apart y1 (by intro j n; cases j <;> simp) a hne e
        have n2 := ly.apart y2 (by intro j n; cases j <;> simp) a hne e
        omega
      · exact Below.trans (((ky.trans hB1).set (p := ⟨w.heap.size + 1, 0, none⟩) (by simp) _).set (p := ⟨w.heap.size + 1 + 1, 0, none⟩) (by simp; omega) _) (belowK_b (w := w) (Nat.le_refl _) _ D _ _ (by omega) hK' rfl rfl)
    case stop =>
      rintro D c pre W hD hpre ⟨rfl, hp, ⟨d1, d2⟩, hB⟩ hK
      have HV : Hid (heapR zs = false) := by show _ = _; rw [HE.out]; exact allB_pre hpre hp
      clear hp
      gi_wp2
      refine ⟨by simp, .inl ⟨_, _, rfl, run_takeDeferred hK, ?_⟩⟩
      have q1 := d1.put hK rfl (.deferred none)
      have q2 := d2.put hK rfl (.deferred none)
      refine ⟨.tuple #[.slice none 0 0, .bool false], by simp [results, Tryz.results47, go_sem, q1.cell 0, q2.cell 0], fun _ => rfl, fun h => absurd (HV.out.symm.trans h) (by simp), ?_⟩
      exact hB.trans (belowK_b (w := w) (Nat.le_refl _) _ D _ _ (by omega) hK rfl rfl)
set_option maxHeartbeats 2000000 in
theorem impl_HeapOk_ok (w : World) (ao : Option Addr) (cap : Nat) (zs : List Int) (hI : Ints w ao zs) (hl : zs.length ≤ 1048576) :
    Calls Tryz.prog 17 #[.agg #[.slice ao zs.length cap]] w fun e w' => e = .returned (.bool (heapR zs)) ∧ Kept w w' := by
  have k0 : Kept w (w.alloc (.cells #[.slice ao zs.length cap] 26)) := Kept.alloc (Below.refl _ _) _
  have hLo := heapLayout_ok _ ao cap zs (hI.kept k0) hl
  clear hI
  cases hh : heapR zs with
  | false =>
    have hLo' := hLo.mono (R' := fun e w' => e = .returned (.tuple #[.slice none 0 0, .bool false]) ∧ Kept (w.alloc (.cells #[.slice ao zs.length cap] 26)) w') (fun e w' h => ⟨h.1 hh, h.2.2⟩)
    clear hh hLo
    go_enter Tryz.func17, Tryz.ntmps17
    go_wp2_with (go_at_call 47; refine hLo'.mono ?_; rintro e w1 ⟨rfl, hk1⟩)
    go_ret
    exact ⟨rfl, k0.trans hk1⟩
  | true =>
    have hLo' := hLo.mono (R' := fun e w' => ∃ lo lc, e = .returned (.tuple #[.slice lo zs.length lc, .bool true]) ∧ Kept (w.alloc (.cells #[.slice ao zs.length cap] 26)) w') (fun e w' h => by obtain ⟨lo, lc, h1, h2⟩ := h.2.1 hh; exact ⟨lo, lc, h1, h.2.2⟩)
    clear hh hLo
    go_enter Tryz.func17, Tryz.ntmps17
    go_wp2_with (go_at_call 47; refine hLo'.mono ?_; rintro e w1 ⟨lo, lc, rfl, hk1⟩)
    go_ret
    exact ⟨rfl, k0.trans hk1⟩
end Go.Proofs.YtpbafjcoomfooaaGreat
