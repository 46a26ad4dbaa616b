/-
  The contract of the laws' helper markText: a text for each number.
-/
import Derived.Test.YtgempjjnfpmndaaSlabI
import Derived.WalkKit
import Derived.IntWalk
import Derived.Deep.LoopGhost
import Derived.OwnWalk
namespace Go.Proofs.Ytgempjjnfpmndaa
open Go.RowKit
attribute [local go_sem] Plain.and7

theorem conv_oneN (W : World) (x : Int) : (convert 94 9 (.slice (some ⟨W.heap.size, 0, none⟩) 1 1)).run Try.prog (W.alloc (.cells #[.int .u8 x] 5)) = .ok (.string (strOfNums [x])) (W.alloc (.cells #[.int .u8 x] 5)) :=
  run_convert_bytes_arg (W.alloc (.cells #[.int .u8 x] 5)) 94 5 Try.underlying94 Try.underlying5 W.heap.size 0 1 1 [x] rfl (fun j hj => by
    obtain rfl : j = 0 := by omega
    rw [(Cells.new W 5 #[.int .u8 x]).cell]; rfl) 9 Try.underlying9
theorem str_oneN (x : Int) : (strOfNums [x]).size = 1 := rfl
def digM : Nat → Nat → ByteArray → ByteArray
  | 0, _, out => out
  | f + 1, n, out => if n = 0 then out else digM f (n / 10) (strOfNums [48 + (n : Int) % 10] ++ out)
def mkM (k : Nat) : ByteArray := (⟨#[109]⟩ : ByteArray) ++ digM k k ⟨#[]⟩
theorem digM_size : ∀ (f n : Nat) (out : ByteArray), n ≤ f → (digM f n out).size ≤ out.size + n
  | 0, n, out, h => by rw [digM]; omega
  | f + 1, n, out, h => by
    rw [digM]
    split
    · omega
    · have := digM_size f (n / 10) (strOfNums [48 + (n : Int) % 10] ++ out) (by omega)
      rw [ByteArray.size_append, str_oneN] at this
      omega
theorem mkM_size (k : Nat) : (mkM k).size ≤ 1 + k := by
  unfold mkM
  rw [ByteArray.size_append]
  have := digM_size k k ⟨#[]⟩ (Nat.le_refl _)
  have e : (⟨#[]⟩ : ByteArray).size = 0 := rfl
  have e2 : (⟨#[109]⟩ : ByteArray).size = 1 := rfl
  omega
set_option maxHeartbeats 4000000 in
set_option maxRecDepth 100000 in
theorem markTextN_ok (w : World) (k : Nat) (h1 : 1 ≤ k) (h2 : k ≤ 100000000) :
    Calls Try.prog 45 #[.int .i64 (k : Int)] w fun e w' => e = .returned (.string (mkM k)) ∧ Kept w w' := by
  have hp : ¬ (k : Int) ≤ 0 := by omega
  go_enter Try.func45, Try.ntmps45
  go_wp2_with fail
  go_loopw [0, 3] (fun i o wr => ∃ (n f : Nat) (out : ByteArray), i = .int .i64 n ∧ o = .string out ∧ n ≤ f ∧ out.size + n ≤ k ∧ digM f n out = digM k k ⟨#[]⟩ ∧ Kept w wr) (fun i _ _ => (intOf i).toNat)
  case atStart => exact ⟨k, k, _, rfl, rfl, Nat.le_refl _, by show 0 + k ≤ k; omega, rfl, Below.refl _ _⟩
  case round =>
    obtain ⟨n, f, out, rfl, rfl, hnf, hnk, hd, hK⟩ := hrel
    have HD : Hid _ := hd
    have HK : Hid _ := hK
    clear hd
    by_cases h0 : n = 0
    · subst h0
      have e0 : digM f 0 out = out := by cases f <;> simp [digM]
      have HE : Hid (out = digM k k ⟨#[]⟩) := e0.symm.trans HD.out
      have hno : ¬ 9223372036854775807 < 1 + out.size := by omega
      have hno2 : ¬ 9223372036854775807 < (⟨#[109]⟩ : ByteArray).size + out.size := hno
      clear hK e0
      go_wp2_with fail
      go_ret
      exact ⟨by rw [mkM, ← HE.out]; rfl, HK.out⟩
    · have hpos : (0 : Int) < (n : Int) := by omega
      have u8 := IntWalk.u8_in (48 + (n : Int) % 10) (by omega)
      have hcv := conv_oneN wr (48 + (n : Int) % 10)
      have hq : (n : Int).tdiv 10 = ((n / 10 : Nat) : Int) := by rw [Int.tdiv_eq_ediv_of_nonneg (by omega)]; omega
      have hr : (n : Int).tmod 10 = (n : Int) % 10 := by rw [Int.tmod_eq_emod_of_nonneg (by omega)]
      have kA : Kept wr (wr.alloc (.cells #[.int .u8 (48 + (n : Int) % 10)] 5)) := Kept.alloc (Below.refl _ _) _
      have hno : ¬ 9223372036854775807 < (strOfNums [48 + (n : Int) % 10]).size + out.size := by rw [str_oneN]; omega
      obtain ⟨f', rfl⟩ : ∃ f', f = f' + 1 := ⟨f - 1, by omega⟩
      have HD2 : Hid (digM f' (n / 10) (strOfNums [48 + (n : Int) % 10] ++ out) = digM k k ⟨#[]⟩) := by
        have := HD.out
        rw [digM, if_neg h0] at this
        exact this
      clear hK HD
      go_wp2_with fail
      go_roundw
      case rel => exact ⟨n / 10, f', _, by rw [show ((n / 10 : Nat) : Int) = (n : Int) / 10 by omega], rfl, by omega, by rw [ByteArray.size_append, str_oneN]; omega, HD2.out, Kept.trans HK.out kA⟩
      case measure => simp [intOf]; omega
end Go.Proofs.Ytgempjjnfpmndaa
