/-
  The contracts of chapter 3's models that go over some words: l3Zero, l3Text.
-/
import Derived.Test.YtpbafjcoomfooaaGreatShapeH
namespace Go.Proofs.YtpbafjcoomfooaaGreat
open Go.RowKit
attribute [local go_sem] Plain.and7

def allR (P : Nat → Bool) (k : Nat) : Bool := (List.range k).all P
theorem allR_zero (P : Nat → Bool) : allR P 0 = true := by simp [allR]
theorem allR_succ (P : Nat → Bool) (k : Nat) : allR P (k + 1) = (allR P k && P k) := by simp [allR, List.range_succ]
theorem allR_iff {P : Nat → Bool} {k : Nat} : allR P k = true ↔ ∀ i, i < k → P i = true := by simp [allR]
theorem allR_false {P : Nat → Bool} {k n : Nat} (hk : k ≤ n) (h : allR P k = false) : allR P n = false := by
  cases hn : allR P n with
  | false => rfl
  | true =>
    have : allR P k = true := allR_iff.2 (fun i hi => allR_iff.1 hn i (by omega))
    rw [this] at h; cases h
def zeroR (zs : List Int) (f n : Nat) : Bool := allR (fun i => decide (hz zs (f + i) = 0)) n
def bytesR (zs : List Int) (f n : Nat) : Bool := allR (fun i => decide (0 ≤ hz zs (f + i) ∧ hz zs (f + i) ≤ 255)) n
def textR (zs : List Int) (a s : Nat) : Bool := decide (0 ≤ hz zs (a + 1) ∧ hz zs (a + 1) ≤ (s : Int) - 2) && zeroR zs (a + 2 + (hz zs (a + 1)).toNat) (s - 2 - (hz zs (a + 1)).toNat) && bytesR zs (a + 2) (hz zs (a + 1)).toNat

set_option maxHeartbeats 4000000 in
theorem l3Zero_ok (w : World) (ao : Option Addr) (cap : Nat) (zs : List Int) (f n : Nat) (fI tI : Int) (hf : fI = (f : Int)) (ht : tI = (f : Int) + (n : Int)) (hI : Ints w ao zs) (hl : zs.length ≤ 1048576) (hle : f + n ≤ zs.length) :
    Calls Tryz.prog 126 #[.agg #[.slice ao zs.length cap], .int .i64 fI, .int .i64 tI] w fun e w' => e = .returned (.bool (zeroR zs f n)) ∧ Kept w w' := by
  subst hf ht
  have b0 := Cells.new w 26 #[.slice ao zs.length cap]
  have k0 : Kept w (w.alloc (.cells #[.slice ao zs.length cap] 26)) := Kept.alloc (Below.refl _ _) _
  have c0 := b0.cell 0
  go_enter Tryz.func126, Tryz.ntmps126
  go_wp2
  go_loopw [7] (fun i wr => wr = w.alloc (.cells #[.slice ao zs.length cap] 26) ∧ ∃ k : Nat, i = .int .i64 ((f : Int) + (k : Int)) ∧ k ≤ n ∧ zeroR zs f k = true) (fun i _ => f + n - (intOf i).toNat)
  case atStart => exact ⟨by first | rfl | trivial, 0, by simp, Nat.zero_le _, allR_zero _⟩
  case round =>
    obtain ⟨rfl, k, rfl, hk, hz'⟩ := hrel
    have HZ : Hid (zeroR zs f k = true) := hz'
    clear hz'
    by_cases hlt : k < n
    · obtain ⟨b, off, rfl, hc⟩ := (hI.kept k0).at (k := f + k) (by omega)
      have hck := hc (f + k) (by omega)
      have e1 : ((f : Int) + (k : Int)).toNat = f + k := by omega
      have hltI : (f : Int) + (k : Int) < (f : Int) + (n : Int) := by omega
      have hltL : (f : Int) + (k : Int) < (zs.length : Int) := by omega
      have hge : (0 : Int) ≤ (f : Int) + (k : Int) := by omega
      have HS : Hid (zeroR zs f (k + 1) = decide (hz zs (f + k) = 0)) := by
        show _ = _
        unfold zeroR
        rw [allR_succ, show allR (fun i => decide (hz zs (f + i) = 0)) k = true from HZ.out, Bool.true_and]
      clear hc hI
      by_cases h : hz zs (f + k) = 0
      · have e0 : (hz zs (f + k) != 0) = false := by simp [h]
        have HE : Hid (hz zs (f + k) = 0) := h
        clear h
        go_wp2
        go_roundw
        case rel => exact ⟨by first | rfl | trivial, k + 1, by go_num, by omega, by rw [HS.out]; simp [HE.out]⟩
        case measure => simp [intOf]; omega
      · have e0 : (hz zs (f + k) != 0) = true := by simp [h]
        have HF : Hid (zeroR zs f n = false) := by
          refine allR_false (k := k + 1) (by omega) ?_
          have := HS.out
          unfold zeroR at this
          rw [this]
          simpa using h
        clear h
        go_wp2
        go_ret
        exact ⟨by rw [HF.out]; rfl, k0⟩
    · obtain rfl : n = k := by omega
      go_wp2
      go_ret
      exact ⟨by rw [HZ.out]; rfl, k0⟩
set_option maxHeartbeats 8000000 in
set_option maxRecDepth 100000 in
theorem l3Text_ok (w : World) (ao : Option Addr) (cap : Nat) (zs : List Int) (a s : Nat) (hI : Ints w ao zs) (hl : zs.length ≤ 1048576) (hle : a + s ≤ zs.length) (hs : 2 ≤ s) :
    Calls Tryz.prog 123 #[.agg #[.slice ao zs.length cap], .int .i64 a, .int .i64 s] w fun e w' => e = .returned (.bool (textR zs a s)) ∧ Kept w w' := by
  have b0 := Cells.new w 26 #[.slice ao zs.length cap]
  have k0 : Kept w (w.alloc (.cells #[.slice ao zs.length cap] 26)) := Kept.alloc (Below.refl _ _) _
  have c0 := b0.cell 0
  obtain ⟨bb, off, rfl, hc⟩ := hI.at (k := 0) (by omega)
  have hck := hc (a + 1) (by omega)
  have hbl : bb < w.heap.size := World.block_lt_of_cell? _ _ hck
  have h1I : (a : Int) + 1 < (zs.length : Int) := by omega
  have h10 : (0 : Int) ≤ (a : Int) + 1 := by omega
  obtain ⟨n, hn⟩ : ∃ n, hz zs (a + 1) = n := ⟨_, rfl⟩
  rw [hn] at hck
  by_cases hr : 0 ≤ n ∧ n ≤ (s : Int) - 2
  · obtain ⟨m, rfl⟩ : ∃ m : Nat, n = m := ⟨n.toNat, by omega⟩
    have hZ := l3Zero_ok (w.alloc (.cells #[.slice (some ⟨bb, off, none⟩) zs.length cap] 26)) (some ⟨bb, off, none⟩) cap zs (a + 2 + m) (s - 2 - m) ((a : Int) + 2 + (m : Int)) ((a : Int) + (s : Int)) (by omega) (by omega) (hI.kept k0) hl (by omega)
    have HT : Hid (textR zs a s = (zeroR zs (a + 2 + m) (s - 2 - m) && bytesR zs (a + 2) m)) := by
      show _ = _
      unfold textR
      rw [hn]
      simp [hr]
    cases hz0 : zeroR zs (a + 2 + m) (s - 2 - m) with
    | false =>
      have HR : Hid (textR zs a s = false) := by show _ = _; rw [HT.out, hz0]; rfl
      rw [hz0] at hZ
      clear hz0 hn hc hI
      go_enter Tryz.func123, Tryz.ntmps123
      go_wp2_with (first | (go_at_call 124; refine (l1In_yes _ _ _ _ (by omega) (by omega)).mono ?_; rintro e wx ⟨rfl, rfl⟩) | (go_at_call 126; refine hZ.mono ?_; rintro e w1 ⟨rfl, hk1⟩))
      go_ret
      exact ⟨by rw [HR.out]; rfl, k0.trans hk1⟩
    | true =>
      have HR : Hid (textR zs a s = bytesR zs (a + 2) m) := by show _ = _; rw [HT.out, hz0, Bool.true_and]
      rw [hz0] at hZ
      have hwd : ∀ k, k < m → w.cell? ⟨bb, off + (a + 2 + k), none⟩ = some (.int .i64 (hz zs (a + 2 + k))) := fun k hk => hc (a + 2 + k) (by omega)
      clear hz0 hn hc hI
      go_enter Tryz.func123, Tryz.ntmps123
      go_wp2_with (first | (go_at_call 124; refine (l1In_yes _ _ _ _ (by omega) (by omega)).mono ?_; rintro e wx ⟨rfl, rfl⟩) | (go_at_call 126; refine hZ.mono ?_; rintro e w1 ⟨rfl, hk1⟩))
      have d0 := (b0.kept hk1).cell 0
      have k1 := k0.trans hk1
      clear c0 hZ
      go_loopw [8] (fun i wr => wr = w1 ∧ ∃ k : Nat, i = .int .i64 k ∧ k ≤ m ∧ bytesR zs (a + 2) k = true) (fun i _ => m - (intOf i).toNat)
      case atStart => exact ⟨by first | rfl | trivial, 0, rfl, Nat.zero_le _, allR_zero _⟩
      case round =>
        obtain ⟨rfl, k, rfl, hk, hb'⟩ := hrel
        have HB : Hid (bytesR zs (a + 2) k = true) := hb'
        clear hb'
        by_cases hlt : k < m
        · have hcw := ((k1).cell (p := ⟨bb, off + (a + 2 + k), none⟩) hbl).trans (hwd k hlt)
          have e1 : ((a : Int) + 2 + (k : Int)).toNat = a + 2 + k := by omega
          have hltL : (a : Int) + 2 + (k : Int) < (zs.length : Int) := by omega
          have hge : (0 : Int) ≤ (a : Int) + 2 + (k : Int) := by omega
          have HS : Hid (bytesR zs (a + 2) (k + 1) = decide (0 ≤ hz zs (a + 2 + k) ∧ hz zs (a + 2 + k) ≤ 255)) := by
            show _ = _
            unfold bytesR
            rw [allR_succ, show allR (fun i => decide (0 ≤ hz zs (a + 2 + i) ∧ hz zs (a + 2 + i) ≤ 255)) k = true from HB.out, Bool.true_and]
          by_cases h : 0 ≤ hz zs (a + 2 + k) ∧ hz zs (a + 2 + k) ≤ 255
          · obtain ⟨g0, g1⟩ := h
            go_wp2_with (first | (go_at_call 124; refine (l1In_yes _ _ _ _ g0 g1).mono ?_; rintro e wx ⟨rfl, rfl⟩))
            go_roundw
            case rel => exact ⟨by first | rfl | trivial, k + 1, by go_num, by omega, by rw [HS.out]; simp [g0, g1]⟩
            case measure => simp [intOf]; omega
          · have HF : Hid (bytesR zs (a + 2) m = false) := by
              refine allR_false (k := k + 1) (by omega) ?_
              have := HS.out
              unfold bytesR at this
              rw [this]
              simpa using h
            have h' : hz zs (a + 2 + k) < 0 ∨ 255 < hz zs (a + 2 + k) := by omega
            clear h
            go_wp2_with (first | (go_at_call 124; refine (l1In_no _ _ _ _ h').mono ?_; rintro e wx ⟨rfl, rfl⟩))
            go_ret
            exact ⟨by rw [HR.out, HF.out]; rfl, k1⟩
        · obtain rfl : m = k := by omega
          go_wp2
          go_ret
          exact ⟨by rw [HR.out, HB.out]; rfl, k1⟩
  · have HR : Hid (textR zs a s = false) := by
      show _ = _
      unfold textR
      rw [hn]
      simp [hr]
    have h' : n < 0 ∨ (s : Int) - 2 < n := by omega
    clear hr hn hc hI
    go_enter Tryz.func123, Tryz.ntmps123
    go_wp2_with (first | (go_at_call 124; refine (l1In_no _ _ _ _ h').mono ?_; rintro e wx ⟨rfl, rfl⟩))
    go_ret
    exact ⟨by rw [HR.out]; rfl, k0⟩
end Go.Proofs.YtpbafjcoomfooaaGreat
