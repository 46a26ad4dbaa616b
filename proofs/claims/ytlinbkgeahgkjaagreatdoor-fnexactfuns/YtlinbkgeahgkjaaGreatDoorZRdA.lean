/-
  The contracts of chapter 11's small functions: which bytes fit, and how far they go (genRd.py).
-/
import Derived.Deep.LoopGhost
import Derived.Test.YtlinbkgeahgkjaaGreatDoorGrpTe
import Derived.Test.YtlinbkgeahgkjaaGreatDoorKepP
namespace Go.Proofs.YtlinbkgeahgkjaaGreatDoor
open Go.RowKit
set_option linter.unusedSimpArgs false

theorem isLetter_ok (b : Int) (w : World) : Calls Tryz.prog 107 #[.int .u8 b] w fun e w' => e = .returned (.bool (letB b)) ∧ w = w' := by
  by_cases h1 : 97 ≤ b
  · by_cases h2 : b ≤ 122
    · have HL : Hid (letB b = true) := by simp [Hid, letB]; omega
      go_enter Tryz.func107, Tryz.ntmps107
      go_wp2
      go_ret
      exact ⟨by rw [HL.out]; rfl, rfl⟩
    · have h3 : 65 ≤ b := by omega
      have h4 : ¬ b ≤ 90 := by omega
      have HL : Hid (letB b = false) := by simp [Hid, letB]; omega
      go_enter Tryz.func107, Tryz.ntmps107
      go_wp2
      go_ret
      exact ⟨by rw [HL.out]; rfl, rfl⟩
  · by_cases h3 : 65 ≤ b
    · have HL : Hid (letB b = decide (b ≤ 90)) := by rw [Hid, letB, Bool.eq_iff_iff]; simp; omega
      go_enter Tryz.func107, Tryz.ntmps107
      go_wp2
      go_ret
      exact ⟨by rw [HL.out]; rfl, rfl⟩
    · have HL : Hid (letB b = false) := by simp [Hid, letB]; omega
      go_enter Tryz.func107, Tryz.ntmps107
      go_wp2
      go_ret
      exact ⟨by rw [HL.out]; rfl, rfl⟩
theorem isDigit_ok (b : Int) (w : World) : Calls Tryz.prog 109 #[.int .u8 b] w fun e w' => e = .returned (.bool (digB b)) ∧ w = w' := by
  by_cases h1 : 48 ≤ b
  · have HL : Hid (digB b = decide (b ≤ 57)) := by rw [Hid, digB, Bool.eq_iff_iff]; simp; omega
    go_enter Tryz.func109, Tryz.ntmps109
    go_wp2
    go_ret
    exact ⟨by rw [HL.out]; rfl, rfl⟩
  · have HL : Hid (digB b = false) := by simp [Hid, digB]; omega
    go_enter Tryz.func109, Tryz.ntmps109
    go_wp2
    go_ret
    exact ⟨by rw [HL.out]; rfl, rfl⟩
theorem inName_ok (b : Int) (w : World) : Calls Tryz.prog 125 #[.int .u8 b] w fun e w' => e = .returned (.bool (nameB b)) ∧ w = w' := by
  have hL := isLetter_ok b
  have hD := isDigit_ok b
  have HN : Hid (nameB b = (letB b || digB b)) := rfl
  obtain ⟨l, hl⟩ : ∃ l, letB b = l := ⟨_, rfl⟩
  obtain ⟨d, hd⟩ : ∃ l, digB b = l := ⟨_, rfl⟩
  rw [hl] at hL
  rw [hd] at hD
  rw [hl, hd] at HN
  clear hl hd
  cases l
  · go_enter Tryz.func125, Tryz.ntmps125
    go_wp2_with (first | (go_at_call 107; refine (hL _).mono ?_; rintro e wx ⟨rfl, rfl⟩) | (go_at_call 109; refine (hD _).mono ?_; rintro e wx ⟨rfl, rfl⟩))
    go_ret
    exact ⟨by rw [HN.out]; rfl, rfl⟩
  · go_enter Tryz.func125, Tryz.ntmps125
    go_wp2_with (first | (go_at_call 107; refine (hL _).mono ?_; rintro e wx ⟨rfl, rfl⟩) | (go_at_call 109; refine (hD _).mono ?_; rintro e wx ⟨rfl, rfl⟩))
    go_ret
    exact ⟨by rw [HN.out]; rfl, rfl⟩
theorem inText_ok (b : Int) (w : World) : Calls Tryz.prog 117 #[.int .u8 b] w fun e w' => e = .returned (.bool (textB b)) ∧ w = w' := by
  by_cases h1 : 32 ≤ b
  · by_cases h2 : b ≤ 126
    · have HL : Hid (textB b = (b != 34)) := by rw [Hid, textB, Bool.eq_iff_iff]; simp; omega
      go_enter Tryz.func117, Tryz.ntmps117
      go_wp2
      go_ret
      exact ⟨by rw [HL.out]; rfl, rfl⟩
    · have HL : Hid (textB b = false) := by rw [Hid, textB, Bool.eq_false_iff]; simp; omega
      go_enter Tryz.func117, Tryz.ntmps117
      go_wp2
      go_ret
      exact ⟨by rw [HL.out]; rfl, rfl⟩
  · have HL : Hid (textB b = false) := by rw [Hid, textB, Bool.eq_false_iff]; simp; omega
    go_enter Tryz.func117, Tryz.ntmps117
    go_wp2
    go_ret
    exact ⟨by rw [HL.out]; rfl, rfl⟩
theorem Cells.keepsB {w w' : World} {c B : Nat} {t : TypeId} {cs : Array Value} (h : Cells w B t cs) (hk : Keeps c w w') (hne : B ≠ c) : Cells w' B t cs := (hk.block B h.lt hne).trans h
set_option maxHeartbeats 8000000 in
set_option maxRecDepth 100000 in
theorem span_inName (w : World) (B : Nat) (t : ByteArray) (a : Nat) (hB : Cells w B 3 #[.int .i64 (a : Nat)]) (ha : a ≤ t.size) (ht : t.size ≤ 1048576) :
    Calls Tryz.prog 116 #[.string t, .pointer (some ⟨B, 0, none⟩), .func (.func 125) #[] #[]] w fun e w' => e = .returned (.string (t.extract a (runE nameB t a))) ∧ Cells w' B 3 #[.int .i64 (runE nameB t a : Nat)] ∧ Keeps B w w' := by
  have c0 := hB.cell 0
  have HB : Hid (Cells w B 3 #[.int .i64 (a : Nat)]) := hB
  simp at c0
  clear hB
  go_enter Tryz.func116, Tryz.ntmps116
  go_wp2_with fail
  clear c0
  go_loopg [] t.size (fun gk wr => ∃ (k : Nat), t.size - k ≤ gk ∧ a ≤ k ∧ k ≤ t.size ∧ Hid (runE nameB t k = runE nameB t a) ∧ Hid (Cells wr B 3 #[.int .i64 (k : Nat)]) ∧ Hid (Keeps B w wr))
  case atStart => exact ⟨a, by omega, Nat.le_refl _, ha, rfl, HB.out, Keeps.refl _ _⟩
  case round =>
    obtain ⟨k, hgk, hak, hk, hE, hC, hK⟩ := hrel
    have c0 := hC.out.cell 0; have f0 := hC.out.frozen 0; have l0 := hC.out.lt
    simp at c0
    by_cases hlt : k < t.size
    · have q1 : (k : Int) < (t.size : Int) := by omega
      have hF := inName_ok (t[k].toNat : Int) wr
      have q2 : (k : Int) + 1 ≤ 9223372036854775807 := by omega
      by_cases hp : nameB (byteN t k) = true
      · rw [show nameB (t[k].toNat : Int) = true by rw [byteN_get t k hlt]; exact hp] at hF
        have HN : Hid (runE nameB t (k + 1) = runE nameB t a) := by rw [Hid, ← runE_step hlt hp]; exact hE.out
        have HC : Hid (Cells (wr.setCell ⟨B, 0, none⟩ (.int .i64 ((k : Nat) + 1))) B 3 #[.int .i64 ((k + 1 : Nat) : Int)]) := hC.out.set1 _
        clear hp
        go_wp2_with (go_at_call 125; refine hF.mono ?_; rintro e wx ⟨rfl, rfl⟩)
        go_roundg (t.size - (k + 1))
        case measure => omega
        case rel => exact ⟨k + 1, Nat.le_refl _, by omega, by omega, HN.out, HC.out, hK.out.setCell _ _⟩
      · rw [show nameB (t[k].toNat : Int) = false by rw [byteN_get t k hlt]; simpa using hp] at hF
        have HR : Hid (runE nameB t k = k) := runE_stop (by simpa using hp)
        have q3 : (a : Int) ≤ (k : Int) := by omega
        clear hp
        go_wp2_with (go_at_call 125; refine hF.mono ?_; rintro e wx ⟨rfl, rfl⟩)
        go_ret
        exact ⟨by rw [← hE.out, HR.out]; rfl, by rw [← hE.out, HR.out]; exact hC.out, hK.out⟩
    · have q1 : ¬ (k : Int) < (t.size : Int) := by omega
      have q3 : (a : Int) ≤ (k : Int) := by omega
      have q4 : (k : Int) ≤ (t.size : Int) := by omega
      have HR : Hid (runE nameB t k = k) := runE_end hlt
      go_wp2_with fail
      go_ret
      exact ⟨by rw [← hE.out, HR.out]; rfl, by rw [← hE.out, HR.out]; exact hC.out, hK.out⟩
set_option maxHeartbeats 8000000 in
set_option maxRecDepth 100000 in
theorem span_isDigit (w : World) (B : Nat) (t : ByteArray) (a : Nat) (hB : Cells w B 3 #[.int .i64 (a : Nat)]) (ha : a ≤ t.size) (ht : t.size ≤ 1048576) :
    Calls Tryz.prog 116 #[.string t, .pointer (some ⟨B, 0, none⟩), .func (.func 109) #[] #[]] w fun e w' => e = .returned (.string (t.extract a (runE digB t a))) ∧ Cells w' B 3 #[.int .i64 (runE digB t a : Nat)] ∧ Keeps B w w' := by
  have c0 := hB.cell 0
  have HB : Hid (Cells w B 3 #[.int .i64 (a : Nat)]) := hB
  simp at c0
  clear hB
  go_enter Tryz.func116, Tryz.ntmps116
  go_wp2_with fail
  clear c0
  go_loopg [] t.size (fun gk wr => ∃ (k : Nat), t.size - k ≤ gk ∧ a ≤ k ∧ k ≤ t.size ∧ Hid (runE digB t k = runE digB t a) ∧ Hid (Cells wr B 3 #[.int .i64 (k : Nat)]) ∧ Hid (Keeps B w wr))
  case atStart => exact ⟨a, by omega, Nat.le_refl _, ha, rfl, HB.out, Keeps.refl _ _⟩
  case round =>
    obtain ⟨k, hgk, hak, hk, hE, hC, hK⟩ := hrel
    have c0 := hC.out.cell 0; have f0 := hC.out.frozen 0; have l0 := hC.out.lt
    simp at c0
    by_cases hlt : k < t.size
    · have q1 : (k : Int) < (t.size : Int) := by omega
      have hF := isDigit_ok (t[k].toNat : Int) wr
      have q2 : (k : Int) + 1 ≤ 9223372036854775807 := by omega
      by_cases hp : digB (byteN t k) = true
      · rw [show digB (t[k].toNat : Int) = true by rw [byteN_get t k hlt]; exact hp] at hF
        have HN : Hid (runE digB t (k + 1) = runE digB t a) := by rw [Hid, ← runE_step hlt hp]; exact hE.out
        have HC : Hid (Cells (wr.setCell ⟨B, 0, none⟩ (.int .i64 ((k : Nat) + 1))) B 3 #[.int .i64 ((k + 1 : Nat) : Int)]) := hC.out.set1 _
        clear hp
        go_wp2_with (go_at_call 109; refine hF.mono ?_; rintro e wx ⟨rfl, rfl⟩)
        go_roundg (t.size - (k + 1))
        case measure => omega
        case rel => exact ⟨k + 1, Nat.le_refl _, by omega, by omega, HN.out, HC.out, hK.out.setCell _ _⟩
      · rw [show digB (t[k].toNat : Int) = false by rw [byteN_get t k hlt]; simpa using hp] at hF
        have HR : Hid (runE digB t k = k) := runE_stop (by simpa using hp)
        have q3 : (a : Int) ≤ (k : Int) := by omega
        clear hp
        go_wp2_with (go_at_call 109; refine hF.mono ?_; rintro e wx ⟨rfl, rfl⟩)
        go_ret
        exact ⟨by rw [← hE.out, HR.out]; rfl, by rw [← hE.out, HR.out]; exact hC.out, hK.out⟩
    · have q1 : ¬ (k : Int) < (t.size : Int) := by omega
      have q3 : (a : Int) ≤ (k : Int) := by omega
      have q4 : (k : Int) ≤ (t.size : Int) := by omega
      have HR : Hid (runE digB t k = k) := runE_end hlt
      go_wp2_with fail
      go_ret
      exact ⟨by rw [← hE.out, HR.out]; rfl, by rw [← hE.out, HR.out]; exact hC.out, hK.out⟩
set_option maxHeartbeats 8000000 in
set_option maxRecDepth 100000 in
theorem span_inText (w : World) (B : Nat) (t : ByteArray) (a : Nat) (hB : Cells w B 3 #[.int .i64 (a : Nat)]) (ha : a ≤ t.size) (ht : t.size ≤ 1048576) :
    Calls Tryz.prog 116 #[.string t, .pointer (some ⟨B, 0, none⟩), .func (.func 117) #[] #[]] w fun e w' => e = .returned (.string (t.extract a (runE textB t a))) ∧ Cells w' B 3 #[.int .i64 (runE textB t a : Nat)] ∧ Keeps B w w' := by
  have c0 := hB.cell 0
  have HB : Hid (Cells w B 3 #[.int .i64 (a : Nat)]) := hB
  simp at c0
  clear hB
  go_enter Tryz.func116, Tryz.ntmps116
  go_wp2_with fail
  clear c0
  go_loopg [] t.size (fun gk wr => ∃ (k : Nat), t.size - k ≤ gk ∧ a ≤ k ∧ k ≤ t.size ∧ Hid (runE textB t k = runE textB t a) ∧ Hid (Cells wr B 3 #[.int .i64 (k : Nat)]) ∧ Hid (Keeps B w wr))
  case atStart => exact ⟨a, by omega, Nat.le_refl _, ha, rfl, HB.out, Keeps.refl _ _⟩
  case round =>
    obtain ⟨k, hgk, hak, hk, hE, hC, hK⟩ := hrel
    have c0 := hC.out.cell 0; have f0 := hC.out.frozen 0; have l0 := hC.out.lt
    simp at c0
    by_cases hlt : k < t.size
    · have q1 : (k : Int) < (t.size : Int) := by omega
      have hF := inText_ok (t[k].toNat : Int) wr
      have q2 : (k : Int) + 1 ≤ 9223372036854775807 := by omega
      by_cases hp : textB (byteN t k) = true
      · rw [show textB (t[k].toNat : Int) = true by rw [byteN_get t k hlt]; exact hp] at hF
        have HN : Hid (runE textB t (k + 1) = runE textB t a) := by rw [Hid, ← runE_step hlt hp]; exact hE.out
        have HC : Hid (Cells (wr.setCell ⟨B, 0, none⟩ (.int .i64 ((k : Nat) + 1))) B 3 #[.int .i64 ((k + 1 : Nat) : Int)]) := hC.out.set1 _
        clear hp
        go_wp2_with (go_at_call 117; refine hF.mono ?_; rintro e wx ⟨rfl, rfl⟩)
        go_roundg (t.size - (k + 1))
        case measure => omega
        case rel => exact ⟨k + 1, Nat.le_refl _, by omega, by omega, HN.out, HC.out, hK.out.setCell _ _⟩
      · rw [show textB (t[k].toNat : Int) = false by rw [byteN_get t k hlt]; simpa using hp] at hF
        have HR : Hid (runE textB t k = k) := runE_stop (by simpa using hp)
        have q3 : (a : Int) ≤ (k : Int) := by omega
        clear hp
        go_wp2_with (go_at_call 117; refine hF.mono ?_; rintro e wx ⟨rfl, rfl⟩)
        go_ret
        exact ⟨by rw [← hE.out, HR.out]; rfl, by rw [← hE.out, HR.out]; exact hC.out, hK.out⟩
    · have q1 : ¬ (k : Int) < (t.size : Int) := by omega
      have q3 : (a : Int) ≤ (k : Int) := by omega
      have q4 : (k : Int) ≤ (t.size : Int) := by omega
      have HR : Hid (runE textB t k = k) := runE_end hlt
      go_wp2_with fail
      go_ret
      exact ⟨by rw [← hE.out, HR.out]; rfl, by rw [← hE.out, HR.out]; exact hC.out, hK.out⟩
end Go.Proofs.YtlinbkgeahgkjaaGreatDoor
