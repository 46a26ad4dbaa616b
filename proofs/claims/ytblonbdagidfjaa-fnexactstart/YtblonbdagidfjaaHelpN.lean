/-
  A list that is marked from a number on (the laws' helper markIntS).
-/
import Derived.Test.YtblonbdagidfjaaHelpM
namespace Go.Proofs.Ytblonbdagidfjaa
open Go.RowKit
set_option maxHeartbeats 1000000 in
theorem markFrom_ok (w : World) (g cap k0 : Nat) (zs : List Int) (hR : Row w g zs) (hl : zs.length ≤ 1048576) (hk0 : k0 ≤ 1048577) :
    Calls Try.prog 14 #[.slice (some ⟨g, 0, none⟩) zs.length cap, .int .i64 k0] w fun e w' => e = .returned (.int .i64 ((k0 : Int) + (zs.length : Int))) ∧ w.grownBy w' (some g) := by
  obtain ⟨n, hn⟩ : ∃ n, zs.length = n := ⟨_, rfl⟩
  rw [hn] at hl ⊢
  go_enter Try.func14, Try.ntmps14
  go_wp2
  go_loopw [1, 5] (fun m i wr => ∃ (k : Nat) (ys : List Int), i = .int .i64 k ∧ m = .int .i64 ((k0 : Int) + (k : Int)) ∧ k ≤ n ∧ ys.length = n ∧ Row wr g ys ∧ w.grownBy wr (some g)) (fun _ i _ => n - (intOf i).toNat)
  case atStart => exact ⟨0, zs, rfl, by simp, Nat.zero_le _, hn, hR, World.grownBy.refl _ _⟩
  case round =>
    obtain ⟨k, ys, rfl, rfl, hk, hy, hRk, hGk⟩ := hrel
    clear hR hn
    by_cases hlt : k < n
    · have hcg := hRk.cell (j := k) (by omega)
      have hfg := hRk.frozen k
      have HR : Hid (Row _ g (ys.set k ((k0 : Int) + (k : Int)))) := hRk.set (k := k) (v := (k0 : Int) + (k : Int)) (by omega) ⟨by omega, by omega⟩
      have HG : Hid _ := grown_set (k := k) hGk (.int .i64 ((k0 : Int) + (k : Int)))
      have HY : Hid (ys.length = n) := hy
      clear hRk hGk hy
      go_wp2
      go_roundw
      case rel => exact ⟨k + 1, _, by go_num, by go_num, by omega, by rw [List.length_set]; exact HY.out, HR.out, HG.out⟩
      case measure => simp [intOf]; omega
    · obtain rfl : k = n := by omega
      have HG : Hid (w.grownBy wr (some g)) := hGk
      clear hRk hGk hy
      go_wp2
      go_ret
      exact ⟨rfl, HG.out⟩
end Go.Proofs.Ytblonbdagidfjaa
