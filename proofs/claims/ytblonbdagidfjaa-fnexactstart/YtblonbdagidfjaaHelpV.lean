/-
  The laws' helpers: lists that are marked from a number on, and held.
-/
import Derived.Test.YtblonbdagidfjaaHelpN
namespace Go.Proofs.Ytblonbdagidfjaa
open Go.RowKit

/-- The marks k0, k0 + 1, .. -/
def marksF (k0 n : Nat) : List Int := (List.range n).map (fun i : Nat => (k0 : Int) + (i : Int))
theorem marksF_len (k0 n : Nat) : (marksF k0 n).length = n := by simp [marksF]
theorem marksF_at {k0 n j : Nat} (h : j < n) : hz (marksF k0 n) j = (k0 : Int) + (j : Int) := by simp [hz, marksF, h]
def mixF (k0 : Nat) (zs : List Int) (k : Nat) : List Int := marksF k0 k ++ zs.drop k
theorem mixF_len (k0 : Nat) (zs : List Int) {k : Nat} (hk : k ≤ zs.length) : (mixF k0 zs k).length = zs.length := by simp [mixF, marksF_len]; omega
theorem mixF_all (k0 : Nat) (zs : List Int) : mixF k0 zs zs.length = marksF k0 zs.length := by simp [mixF]
theorem mixF_succ (k0 : Nat) (zs : List Int) {k : Nat} (hk : k < zs.length) : (mixF k0 zs k).set k ((k0 : Int) + (k : Int)) = mixF k0 zs (k + 1) := by
  apply List.ext_getElem?
  intro j
  rw [List.getElem?_set, mixF_len k0 zs (by omega)]
  unfold mixF
  by_cases e : k = j
  · subst e
    rw [if_pos rfl, if_pos hk, List.getElem?_append_left (by simp [marksF_len])]
    simp [marksF]
  · rw [if_neg e]
    by_cases h : j < k
    · rw [List.getElem?_append_left (by simp [marksF_len]; omega), List.getElem?_append_left (by simp [marksF_len]; omega)]
      simp [marksF, h, show j < k + 1 by omega]
    · rw [List.getElem?_append_right (by simp [marksF_len]; omega), List.getElem?_append_right (by simp [marksF_len]; omega)]
      simp only [marksF_len, List.getElem?_drop]
      rw [show k + (j - k) = k + 1 + (j - (k + 1)) by omega]
set_option maxHeartbeats 1000000 in
theorem markRowF_ok (w : World) (g cap k0 : Nat) (zs : List Int) (hR : Row w g zs) (hl : zs.length ≤ 2097152) (hk0 : k0 ≤ 2097153) :
    Calls Try.prog 14 #[.slice (some ⟨g, 0, none⟩) zs.length cap, .int .i64 k0] w fun e w' => e = .returned (.int .i64 ((k0 : Int) + (zs.length : Int))) ∧ Row w' g (marksF k0 zs.length) ∧ w.grownBy w' (some g) := by
  go_enter Try.func14, Try.ntmps14
  go_wp2
  go_loopw [1, 5] (fun m i wr => ∃ k : Nat, i = .int .i64 k ∧ m = .int .i64 ((k0 : Int) + (k : Int)) ∧ k ≤ zs.length ∧ Row wr g (mixF k0 zs k) ∧ w.grownBy wr (some g)) (fun _ i _ => zs.length - (intOf i).toNat)
  case atStart => exact ⟨0, rfl, by simp, Nat.zero_le _, by simpa [mixF, marksF] using hR, World.grownBy.refl _ _⟩
  case round =>
    obtain ⟨k, rfl, rfl, hk, hRk, hGk⟩ := hrel
    clear hR
    by_cases hlt : k < zs.length
    · have hcg := hRk.cell (j := k) (by rw [mixF_len _ _ hk]; exact hlt)
      have hfg := hRk.frozen k
      have HR : Hid (Row _ g ((mixF k0 zs k).set k ((k0 : Int) + (k : Int)))) := hRk.set (k := k) (v := (k0 : Int) + (k : Int)) (by rw [mixF_len _ _ hk]; exact hlt) ⟨by omega, by omega⟩
      have HG : Hid _ := grown_set (k := k) hGk (.int .i64 ((k0 : Int) + (k : Int)))
      clear hRk hGk
      go_wp2
      go_roundw
      case rel => exact ⟨k + 1, by go_num, by go_num, by omega, by rw [← mixF_succ k0 zs hlt]; exact HR.out, HG.out⟩
      case measure => simp [intOf]; omega
    · obtain rfl : k = zs.length := by omega
      have HR : Hid (Row wr g (mixF k0 zs zs.length)) := hRk
      have HG : Hid (w.grownBy wr (some g)) := hGk
      clear hRk hGk
      go_wp2
      go_ret
      exact ⟨rfl, by have := HR.out; rwa [mixF_all] at this, HG.out⟩
theorem markNilF_ok (w : World) (ao : Option Addr) (cap k0 : Nat) :
    Calls Try.prog 14 #[.slice ao 0 cap, .int .i64 k0] w fun e w' => e = .returned (.int .i64 k0) ∧ w = w' := by
  go_enter Try.func14, Try.ntmps14
  go_wp2
  go_loopw [1, 5] (fun m i wr => i = .int .i64 0 ∧ m = .int .i64 (k0 : Int) ∧ wr = w) (fun _ _ _ => 0)
  case atStart => exact ⟨rfl, rfl, rfl⟩
  case round =>
    obtain ⟨rfl, rfl, rfl⟩ := hrel
    go_wp2
    go_ret
    exact ⟨rfl, rfl⟩
/-- A row of one's own is marked; what it holds is told by its address. -/
theorem markOwnF_ok (w : World) (base k0 : Nat) (v : Value) (zs : List Int) (hO : OwnL w base v zs) (hl : zs.length ≤ 2097152) (hk0 : k0 ≤ 2097153) :
    Calls Try.prog 14 #[v, .int .i64 k0] w fun e w' => e = .returned (.int .i64 ((k0 : Int) + (zs.length : Int))) ∧ (∃ ao cap, v = .slice ao zs.length cap ∧ Ints w' ao (marksF k0 zs.length) ∧ ∀ x, ao = some x → v.ownBlock = some x.block) ∧ w.grownBy w' v.ownBlock := by
  rcases hO.cases with ⟨rfl, rfl⟩ | ⟨g, cap, rfl, _, _, _, hR⟩
  · refine (markNilF_ok w none 0 k0).mono ?_
    rintro e w' ⟨rfl, rfl⟩
    exact ⟨by simp, ⟨none, 0, rfl, ⟨by simp [marksF], .inl rfl⟩, fun x e => by cases e⟩, World.grownBy.refl _ _⟩
  · refine (markRowF_ok w g cap k0 zs hR hl hk0).mono ?_
    rintro e w' ⟨rfl, hR', hG⟩
    exact ⟨rfl, ⟨_, cap, rfl, hR'.ints, fun x e => by cases e; rfl⟩, hG⟩
set_option maxHeartbeats 1000000 in
theorem heldF_ok (w : World) (ao : Option Addr) (cap k0 n : Nat) (hI : Ints w ao (marksF k0 n)) (hl : n ≤ 2097152) (hk0 : k0 ≤ 2097153) :
    Calls Try.prog 15 #[.slice ao n cap, .int .i64 k0] w fun e w' => e = .returned (.int .i64 ((k0 : Int) + (n : Int))) ∧ w = w' := by
  go_enter Try.func15, Try.ntmps15
  go_wp2
  go_loopw [1, 5] (fun m i wr => wr = w ∧ ∃ k : Nat, i = .int .i64 k ∧ m = .int .i64 ((k0 : Int) + (k : Int)) ∧ k ≤ n) (fun _ i _ => n - (intOf i).toNat)
  case atStart => exact ⟨by first | rfl | trivial, 0, rfl, by simp, Nat.zero_le _⟩
  case round =>
    obtain ⟨rfl, k, rfl, rfl, hk⟩ := hrel
    by_cases hlt : k < n
    · obtain ⟨b, off, rfl, hc⟩ := hI.at (k := k) (by rw [marksF_len]; exact hlt)
      have hck := hc k (by rw [marksF_len]; exact hlt)
      rw [marksF_at hlt] at hck
      clear hc hI
      go_wp2
      go_roundw
      case rel => exact ⟨by first | rfl | trivial, k + 1, by go_num, by go_num, by omega⟩
      case measure => simp [intOf]; omega
    · obtain rfl : k = n := by omega
      clear hI
      go_wp2
      go_ret
      exact ⟨rfl, rfl⟩
end Go.Proofs.Ytblonbdagidfjaa
