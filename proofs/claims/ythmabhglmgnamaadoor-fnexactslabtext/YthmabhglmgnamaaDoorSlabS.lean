/-
  The contracts of chapter 2's models that read alone: l2Size, l2Kind, SlabOk, l2Is, KindAt, SizeAt.
-/
import Derived.Test.YthmabhglmgnamaaDoorSlabI
namespace Go.Proofs.YthmabhglmgnamaaDoor
open Go.RowKit
attribute [local go_sem] Plain.and7

theorem l2Size_ok (z : Int) (w : World) : Calls Tryd.prog 33 #[.int .i64 z] w fun e w' => e = .returned (.int .i64 (z / 8)) ∧ w = w' := by
  go_enter Tryd.func33, Tryd.ntmps33
  go_wp2
  go_ret
  exact ⟨rfl, rfl⟩
theorem l2Kind_ok (z : Int) (w : World) : Calls Tryd.prog 32 #[.int .i64 z] w fun e w' => e = .returned (.int .i64 (z % 8)) ∧ w = w' := by
  go_enter Tryd.func32, Tryd.ntmps32
  go_wp2
  go_ret
  exact ⟨rfl, rfl⟩
theorem l1In_yes (a b c : Int) (w : World) (h1 : b ≤ a) (h2 : a ≤ c) : Calls Tryd.prog 40 #[.int .i64 a, .int .i64 b, .int .i64 c] w fun e w' => e = .returned (.bool true) ∧ w = w' := by
  go_enter Tryd.func40, Tryd.ntmps40
  go_wp2
  go_ret
  exact ⟨rfl, rfl⟩
theorem l1In_no (a b c : Int) (w : World) (h : a < b ∨ c < a) : Calls Tryd.prog 40 #[.int .i64 a, .int .i64 b, .int .i64 c] w fun e w' => e = .returned (.bool false) ∧ w = w' := by
  by_cases hb : b ≤ a
  · have hc : c < a := by omega
    clear h
    go_enter Tryd.func40, Tryd.ntmps40
    go_wp2
    go_ret
    exact ⟨by simp; omega, rfl⟩
  · have hb' : a < b := by omega
    clear h hb
    go_enter Tryd.func40, Tryd.ntmps40
    go_wp2
    go_ret
    exact ⟨rfl, rfl⟩

set_option maxHeartbeats 1000000 in
theorem spec_SlabOk_ok (w : World) (ao : Option Addr) (cap : Nat) (zs : List Int) (hI : Ints w ao zs) (hL : zs.length * 8 ≤ 140737488351232) :
    Calls Tryd.prog 50 #[.agg #[.slice ao zs.length cap]] w fun e w' => e = .returned (.bool (slabOk zs)) ∧ Kept w w' := by
  go_enter Tryd.func50, Tryd.ntmps50
  go_wp2
  go_loop [3] (fun i => ∃ k : Nat, i = .int .i64 k ∧ At zs k) (fun i => zs.length - (intOf i).toNat)
  case atStart => exact ⟨0, rfl, At.zero zs⟩
  case round =>
    obtain ⟨k, rfl, hat⟩ := hrel
    have hkl := hat.2.1
    by_cases hlt : k < zs.length
    · have hbd := hI.bd k
      obtain ⟨b, off, rfl, hc⟩ := hI.at hlt
      have hck := hc k hlt
      have hbl : b < w.heap.size := World.block_lt_of_cell? _ _ hck
      have hq : hz zs k / 8 ≤ 1152921504606846975 := by omega
      have hq' : -1152921504606846976 ≤ hz zs k / 8 := by omega
      have h0 : 0 ≤ hz zs k % 8 := by omega
      by_cases hg : Good zs k
      · have hs := hg.szI
        have hle := hg.le
        have hs2 := hg.sz2
        have g1 := hg.2.1
        have g2 := hg.2.2.1
        have g3 := hg.2.2.2
        have hnx := hat.next hg
        have g4 : hz zs k / 8 ≤ (zs.length : Int) - (k : Int) := by omega
        clear hc hI hg hat
        have HS : Hid ((sz zs k : Int) = hz zs k / 8) := hs
        have HX : Hid (At zs (k + sz zs k)) := hnx
        clear hs hnx
        go_wp2_with (first | (go_at_call 33; refine (l2Size_ok _ _).mono ?_; rintro e wx ⟨rfl, rfl⟩) | (go_at_call 32; refine (l2Kind_ok _ _).mono ?_; rintro e wx ⟨rfl, rfl⟩) | (go_at_call 40; refine (l1In_yes _ _ _ _ g2 g4).mono ?_; rintro e wx ⟨rfl, rfl⟩))
        go_round
        case rel => exact ⟨k + sz zs k, by rw [← HS.out]; go_num, HX.out⟩
        case measure => simp [intOf]; have := HS.out; omega
      · have HN : Hid (slabOk zs = false) := hat.bad hlt hg
        have hcs : (hz zs k / 8 < 2 ∨ (zs.length : Int) - (k : Int) < hz zs k / 8) ∨ (2 ≤ hz zs k / 8 ∧ hz zs k / 8 ≤ (zs.length : Int) - (k : Int) ∧ 5 < hz zs k % 8) := by unfold Good at hg; omega
        clear hc hI hat hg
        rcases hcs with g1 | ⟨g1, g2, g3⟩
        · go_wp2_with (first | (go_at_call 33; refine (l2Size_ok _ _).mono ?_; rintro e wx ⟨rfl, rfl⟩) | (go_at_call 40; refine (l1In_no _ _ _ _ g1).mono ?_; rintro e wx ⟨rfl, rfl⟩))
          go_ret
          exact ⟨by rw [HN.out]; rfl, Kept.alloc (Below.refl _ _) _⟩
        · go_wp2_with (first | (go_at_call 33; refine (l2Size_ok _ _).mono ?_; rintro e wx ⟨rfl, rfl⟩) | (go_at_call 32; refine (l2Kind_ok _ _).mono ?_; rintro e wx ⟨rfl, rfl⟩) | (go_at_call 40; refine (l1In_yes _ _ _ _ g1 g2).mono ?_; rintro e wx ⟨rfl, rfl⟩))
          go_ret
          exact ⟨by rw [HN.out]; rfl, Kept.alloc (Below.refl _ _) _⟩
    · obtain rfl : k = zs.length := by omega
      have HN : Hid (slabOk zs = _) := hat.whole
      go_wp2
      go_ret
      exact ⟨by rw [HN.out]; simp; omega, Kept.alloc (Below.refl _ _) _⟩

end Go.Proofs.YthmabhglmgnamaaDoor
