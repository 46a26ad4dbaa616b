/-
  The contract of chapter 11's model l11Name: how far a name goes.
-/
import Derived.Test.YtlinbkgeahgkjaaGreatDoorTokA
import Derived.Test.YtlinbkgeahgkjaaGreatDoorBytP
namespace Go.Proofs.YtlinbkgeahgkjaaGreatDoor
open Go.RowKit
set_option linter.unusedSimpArgs false

/-- How far the bytes from a on go that fit. -/
def spanN (p : Int → Bool) (t : ByteArray) : Nat → Nat → Nat
  | 0, a => a
  | n + 1, a => if decide (a < t.size) && p (byteN t a) then spanN p t n (a + 1) else a
def runE (p : Int → Bool) (t : ByteArray) (a : Nat) : Nat := spanN p t (t.size - a) a
theorem runE_step {p : Int → Bool} {t : ByteArray} {a : Nat} (h : a < t.size) (hp : p (byteN t a) = true) : runE p t a = runE p t (a + 1) := by
  unfold runE
  rw [show t.size - a = (t.size - (a + 1)) + 1 by omega, spanN, if_pos (by simp [h, hp])]
theorem runE_stop {p : Int → Bool} {t : ByteArray} {a : Nat} (hp : p (byteN t a) = false) : runE p t a = a := by
  unfold runE
  cases h : t.size - a with
  | zero => rfl
  | succ n => rw [spanN, if_neg (by simp [hp])]
theorem runE_end {p : Int → Bool} {t : ByteArray} {a : Nat} (h : ¬ a < t.size) : runE p t a = a := by
  unfold runE
  rw [show t.size - a = 0 by omega, spanN]
def nameB (b : Int) : Bool := letB b || digB b
set_option maxHeartbeats 8000000 in
set_option maxRecDepth 100000 in
theorem l11Name_ok (w : World) (t : ByteArray) (a : Nat) (ha : a ≤ t.size) (ht : t.size ≤ 1048576) :
    Calls Tryz.prog 86 #[.string t, .int .i64 (a : Nat)] w fun e w' => e = .returned (.tuple #[.agg #[.int .i64 1, .string (t.extract a (runE nameB t a)), .int .i64 0, .int .i64 (a : Nat)], .int .i64 (runE nameB t a : Nat), .bool (decide (runE nameB t a ≤ a + 12))]) ∧ Kept w w' := by
  have b0 := Cells.new w 91 #[.int .i64 0, .string ⟨#[]⟩, .int .i64 0, .int .i64 0]
  have k0 : Kept w (w.alloc (.cells #[.int .i64 0, .string ⟨#[]⟩, .int .i64 0, .int .i64 0] 91)) := Kept.alloc (Below.refl _ _) _
  go_enter Tryz.func86, Tryz.ntmps86
  go_wp2_with fail
  go_loopw [7] (fun iv wr => ∃ (k : Nat), iv = .int .i64 k ∧ a ≤ k ∧ k ≤ t.size ∧ Hid (runE nameB t k = runE nameB t a) ∧ Hid (Kept (w.alloc (.cells #[.int .i64 0, .string ⟨#[]⟩, .int .i64 0, .int .i64 0] 91)) wr)) (fun i _ => t.size - (intOf i).toNat)
  case atStart => exact ⟨a, rfl, Nat.le_refl _, ha, rfl, Below.refl _ _⟩
  case round =>
    obtain ⟨k, rfl, hk0, hk, hE, hK⟩ := hrel
    have b1 := b0.kept hK.out
    have e0 := b1.cell 0; have e1 := b1.cell 1; have e2 := b1.cell 2; have e3 := b1.cell 3; have f0 := b1.frozen 0; have f1 := b1.frozen 1; have f2 := b1.frozen 2; have f3 := b1.frozen 3; have l1 := b1.lt
    have z := (((b1.set 0 (.int .i64 1)).set 1 (.string (t.extract a k))).set 2 (.int .i64 0)).set 3 (.int .i64 (a : Nat))
    have z0 := z.cell 0; have z1 := z.cell 1; have z2 := z.cell 2; have z3 := z.cell 3
    have KF : Kept w ((((wr.setCell ⟨w.heap.size, 0, none⟩ (.int .i64 1)).setCell ⟨w.heap.size, 1, none⟩ (.string (t.extract a k))).setCell ⟨w.heap.size, 2, none⟩ (.int .i64 0)).setCell ⟨w.heap.size, 3, none⟩ (.int .i64 (a : Nat))) := ((((k0.trans hK.out).set (by simp) _).set (by simp) _).set (by simp) _).set (by simp) _
    have q2 : decide (((k : Nat) : Int) - (a : Nat) ≤ 12) = decide (k ≤ a + 12) := by simp; omega
    by_cases hlt : k < t.size
    · have q1 : (k : Int) < (t.size : Int) := by omega
      by_cases hL : letB (byteN t k) = true
      · have hL' : letB (t[k].toNat : Int) = true := by rw [byteN_get t k hlt]; exact hL
        have HN : Hid (runE nameB t (k + 1) = runE nameB t a) := by rw [Hid, ← runE_step hlt (by simp [nameB, hL])]; exact hE.out
        clear hL
        go_wp2_with (first | (go_at_call 85; refine (l11Letter_ok _ _).mono ?_; rintro e wx ⟨rfl, rfl⟩) | (go_at_call 87; refine (l11Digit_ok _ _).mono ?_; rintro e wx ⟨rfl, rfl⟩))
        exact ⟨⟨k + 1, by go_num, by omega, by omega, HN.out, hK.out⟩, by simp [intOf]; omega⟩
      · have hL' : letB (t[k].toNat : Int) = false := by rw [byteN_get t k hlt]; simpa using hL
        by_cases hD : digB (byteN t k) = true
        · have hD' : digB (t[k].toNat : Int) = true := by rw [byteN_get t k hlt]; exact hD
          have HN : Hid (runE nameB t (k + 1) = runE nameB t a) := by rw [Hid, ← runE_step hlt (by simp [nameB, hD])]; exact hE.out
          clear hL hD
          go_wp2_with (first | (go_at_call 85; refine (l11Letter_ok _ _).mono ?_; rintro e wx ⟨rfl, rfl⟩) | (go_at_call 87; refine (l11Digit_ok _ _).mono ?_; rintro e wx ⟨rfl, rfl⟩))
          exact ⟨⟨k + 1, by go_num, by omega, by omega, HN.out, hK.out⟩, by simp [intOf]; omega⟩
        · have hD' : digB (t[k].toNat : Int) = false := by rw [byteN_get t k hlt]; simpa using hD
          have HR : Hid (runE nameB t k = k) := runE_stop (by simp at hL hD; simp [nameB, hL, hD])
          clear hL hD
          go_wp2_with (first | (go_at_call 85; refine (l11Letter_ok _ _).mono ?_; rintro e wx ⟨rfl, rfl⟩) | (go_at_call 87; refine (l11Digit_ok _ _).mono ?_; rintro e wx ⟨rfl, rfl⟩))
          refine bodyPost_ret (v := .tuple #[.agg #[.int .i64 1, .string (t.extract a k), .int .i64 0, .int .i64 (a : Nat)], .int .i64 (k : Nat), .bool (decide (k ≤ a + 12))]) (by simp [results, Tryz.results86, go_sem, z0, z1, z2, z3]) rfl ⟨by rw [← hE.out, HR.out], KF⟩
    · have q1 : ¬ (k : Int) < (t.size : Int) := by omega
      have HR : Hid (runE nameB t k = k) := runE_end hlt
      go_wp2_with fail
      refine bodyPost_ret (v := .tuple #[.agg #[.int .i64 1, .string (t.extract a k), .int .i64 0, .int .i64 (a : Nat)], .int .i64 (k : Nat), .bool (decide (k ≤ a + 12))]) (by simp [results, Tryz.results86, go_sem, z0, z1, z2, z3]) rfl ⟨by rw [← hE.out, HR.out], KF⟩
end Go.Proofs.YtlinbkgeahgkjaaGreatDoor
