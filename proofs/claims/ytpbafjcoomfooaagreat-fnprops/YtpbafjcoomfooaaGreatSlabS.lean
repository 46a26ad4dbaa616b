/-
  The contracts of chapter 2's models that read alone: l2Size, l2Kind, SlabOk, l2Is, KindAt, SizeAt.
-/
import Derived.Test.YtpbafjcoomfooaaGreatSlabI
namespace Go.Proofs.YtpbafjcoomfooaaGreat
open Go.RowKit
attribute [local go_sem] Plain.and7

theorem l2Size_ok (z : Int) (w : World) : Calls Tryz.prog 95 #[.int .i64 z] w fun e w' => e = .returned (.int .i64 (z / 8)) ∧ w = w' := by
  go_enter Tryz.func95, Tryz.ntmps95
  go_wp2
  go_ret
  exact ⟨rfl, rfl⟩
theorem l2Kind_ok (z : Int) (w : World) : Calls Tryz.prog 96 #[.int .i64 z] w fun e w' => e = .returned (.int .i64 (z % 8)) ∧ w = w' := by
  go_enter Tryz.func96, Tryz.ntmps96
  go_wp2
  go_ret
  exact ⟨rfl, rfl⟩
theorem l1In_yes (a b c : Int) (w : World) (h1 : b ≤ a) (h2 : a ≤ c) : Calls Tryz.prog 124 #[.int .i64 a, .int .i64 b, .int .i64 c] w fun e w' => e = .returned (.bool true) ∧ w = w' := by
  go_enter Tryz.func124, Tryz.ntmps124
  go_wp2
  go_ret
  exact ⟨rfl, rfl⟩
theorem l1In_no (a b c : Int) (w : World) (h : a < b ∨ c < a) : Calls Tryz.prog 124 #[.int .i64 a, .int .i64 b, .int .i64 c] w fun e w' => e = .returned (.bool false) ∧ w = w' := by
  by_cases hb : b ≤ a
  · have hc : c < a := by omega
    clear h
    go_enter Tryz.func124, Tryz.ntmps124
    go_wp2
    go_ret
    exact ⟨by simp; omega, rfl⟩
  · have hb' : a < b := by omega
    clear h hb
    go_enter Tryz.func124, Tryz.ntmps124
    go_wp2
    go_ret
    exact ⟨rfl, rfl⟩

set_option maxHeartbeats 1000000 in
theorem spec_SlabOk_ok (w : World) (ao : Option Addr) (cap : Nat) (zs : List Int) (hI : Ints w ao zs) (hL : zs.length * 8 ≤ 140737488351232) :
    Calls Tryz.prog 86 #[.agg #[.slice ao zs.length cap]] w fun e w' => e = .returned (.bool (slabOk zs)) ∧ Kept w w' := by
  go_enter Tryz.func86, Tryz.ntmps86
  go_wp2
  go_loop [3] (fun i => ∃ k : Nat, i = .int .i64 k ∧ At zs k) (fun i => zs.length - (intOf i).toNat)
  case atStart => exact ⟨0, rfl, At.zero zs⟩
  case round =>
    obtain ⟨k, rfl, hat⟩ := hrel
    have hkl := hat.2.1
    by_cases hlt : k < zs.length
    · have hbd := hI.bd k
      obtain ⟨b, off, rfl, hc⟩ := hI.at hlt
      have hck := hc k hlt
      have hbl : b < w.heap.size := World.block_lt_of_cell? _ _ hck
      have hq : hz zs k / 8 ≤ 1152921504606846975 := by omega
      have hq' : -1152921504606846976 ≤ hz zs k / 8 := by omega
      have h0 : 0 ≤ hz zs k % 8 := by omega
      by_cases hg : Good zs k
      · have hs := hg.szI
        have hle := hg.le
        have hs2 := hg.sz2
        have g1 := hg.2.1
        have g2 := hg.2.2.1
        have g3 := hg.2.2.2
        have hnx := hat.next hg
        have g4 : hz zs k / 8 ≤ (zs.length : Int) - (k : Int) := by omega
        clear hc hI hg hat
        have HS : Hid ((sz zs k : Int) = hz zs k / 8) := hs
        have HX : Hid (At zs (k + sz zs k)) := hnx
        clear hs hnx
        go_wp2_with (first | (go_at_call 95; refine (l2Size_ok _ _).mono ?_; rintro e wx ⟨rfl, rfl⟩) | (go_at_call 96; refine (l2Kind_ok _ _).mono ?_; rintro e wx ⟨rfl, rfl⟩) | (go_at_call 124; refine (l1In_yes _ _ _ _ g2 g4).mono ?_; rintro e wx ⟨rfl, rfl⟩))
        go_round
        case rel => exact ⟨k + sz zs k, by rw [← HS.out]; go_num, HX.out⟩
        case measure => simp [intOf]; have := HS.out; omega
      · have HN : Hid (slabOk zs = false) := hat.bad hlt hg
        have hcs : (hz zs k / 8 < 2 ∨ (zs.length : Int) - (k : Int) < hz zs k / 8) ∨ (2 ≤ hz zs k / 8 ∧ hz zs k / 8 ≤ (zs.length : Int) - (k : Int) ∧ 5 < hz zs k % 8) := by unfold Good at hg; omega
        clear hc hI hat hg
        rcases hcs with g1 | ⟨g1, g2, g3⟩
        · go_wp2_with (first | (go_at_call 95; refine (l2Size_ok _ _).mono ?_; rintro e wx ⟨rfl, rfl⟩) | (go_at_call 124; refine (l1In_no _ _ _ _ g1).mono ?_; rintro e wx ⟨rfl, rfl⟩))
          go_ret
          exact ⟨by rw [HN.out]; rfl, Kept.alloc (Below.refl _ _) _⟩
        · go_wp2_with (first | (go_at_call 95; refine (l2Size_ok _ _).mono ?_; rintro e wx ⟨rfl, rfl⟩) | (go_at_call 96; refine (l2Kind_ok _ _).mono ?_; rintro e wx ⟨rfl, rfl⟩) | (go_at_call 124; refine (l1In_yes _ _ _ _ g1 g2).mono ?_; rintro e wx ⟨rfl, rfl⟩))
          go_ret
          exact ⟨by rw [HN.out]; rfl, Kept.alloc (Below.refl _ _) _⟩
    · obtain rfl : k = zs.length := by omega
      have HN : Hid (slabOk zs = _) := hat.whole
      go_wp2
      go_ret
      exact ⟨by rw [HN.out]; simp; omega, Kept.alloc (Below.refl _ _) _⟩

/-- Does a block begin at a? -/
def isAt (zs : List Int) (a : Int) : Bool := (atB zs a).isSome
theorem At.is_yes {zs : List Int} {k : Nat} (h : At zs k) (hok : slabOk zs = true) (hk : k < zs.length) : isAt zs k = true := by
  obtain ⟨hp, e⟩ := h.found hok hk
  simp [isAt, e]
set_option maxHeartbeats 1000000 in
theorem l2Is_ok (w : World) (ao : Option Addr) (cap : Nat) (zs : List Int) (a : Int) (hI : Ints w ao zs) (hL : zs.length * 8 ≤ 140737488351232) (hok : slabOk zs = true) :
    Calls Tryz.prog 106 #[.agg #[.slice ao zs.length cap], .int .i64 a] w fun e w' => e = .returned (.bool (isAt zs a)) ∧ Kept w w' := by
  have HO : Hid (slabOk zs = true) := hok
  clear hok
  go_enter Tryz.func106, Tryz.ntmps106
  go_wp2
  go_loop [5] (fun i => ∃ k : Nat, i = .int .i64 k ∧ At zs k ∧ ∀ b ∈ blocks zs, b.1.at' + b.1.size ≤ k → (b.1.at' : Int) < a) (fun i => zs.length - (intOf i).toNat)
  case atStart => exact ⟨0, rfl, At.zero zs, fun b _ h => by have := b.2.1; omega⟩
  case round =>
    obtain ⟨k, rfl, hat, hbef⟩ := hrel
    have hkl := hat.2.1
    by_cases hlt : k < zs.length ∧ (k : Int) < a
    · obtain ⟨hlt, hka⟩ := hlt
      obtain ⟨b, off, rfl, hc⟩ := hI.at hlt
      have hck := hc k hlt
      have hbl : b < w.heap.size := World.block_lt_of_cell? _ _ hck
      have hg := hat.good HO.out hlt
      have hle := hg.le
      have hs2 := hg.sz2
      have g2 := hg.2.2.1
      have g3 := hg.2.2.2
      have HS : Hid ((sz zs k : Int) = hz zs k / 8) := hg.szI
      have HX : Hid (At zs (k + sz zs k)) := hat.next hg
      have HB : Hid (∀ b ∈ blocks zs, b.1.at' + b.1.size ≤ k + sz zs k → (b.1.at' : Int) < a) := fun b hb h => by
        obtain ⟨_, _, pre, e, h3⟩ := hat
        have hb' := hb
        rw [← e, blks_yes hg] at hb'
        rcases List.mem_append.1 hb' with h4 | h4
        · exact hbef b hb (h3 b h4)
        · rcases List.mem_cons.1 h4 with rfl | h4
          · exact hka
          · have := blks_at_ge zs _ b h4; have := b.2.1; omega
      clear hc hI hg hat hbef
      go_wp2_with (first | (go_at_call 95; refine (l2Size_ok _ _).mono ?_; rintro e wx ⟨rfl, rfl⟩))
      go_round
      case rel => exact ⟨k + sz zs k, by rw [← HS.out]; go_num, HX.out, HB.out⟩
      case measure => simp [intOf]; have := HS.out; omega
    · have HR : Hid (isAt zs a = decide ((k : Int) = a ∧ a < zs.length)) := by
        show _ = _
        by_cases e : (k : Int) = a
        · subst e
          by_cases hk : k < zs.length
          · rw [hat.is_yes HO.out hk]; simp [hk]
          · have : isAt zs k = false := by
              have : atB zs k = none := by
                unfold atB
                rw [if_pos HO.out, List.find?_eq_none]
                intro b hb; have := b.2; simp; omega
              simp [isAt, this]
            rw [this]; simp; omega
        · have : atB zs a = none := by
            by_cases hka : a < k
            · refine hat.missed hka (fun b hb h => ?_)
              have := hbef b hb h; omega
            · unfold atB
              rw [if_pos HO.out, List.find?_eq_none]
              intro b hb; have := b.2; simp; omega
          simp [isAt, this, e]
      clear hbef hat hI
      have hsp : (k < zs.length ∧ a ≤ k) ∨ (¬ k < zs.length) := by omega
      by_cases e : (k : Int) = a
      · subst e
        rcases hsp with ⟨h1, h2⟩ | h1
        · go_wp2
          go_ret
          exact ⟨by rw [HR.out]; simp; omega, Kept.alloc (Below.refl _ _) _⟩
        · go_wp2
          go_ret
          exact ⟨by rw [HR.out]; simp; omega, Kept.alloc (Below.refl _ _) _⟩
      · rcases hsp with ⟨h1, h2⟩ | h1
        · have h3 : a < (k : Int) := by omega
          go_wp2
          go_ret
          exact ⟨by rw [HR.out]; simp; omega, Kept.alloc (Below.refl _ _) _⟩
        · obtain rfl : k = zs.length := by omega
          go_wp2
          all_goals go_ret
          all_goals exact ⟨by rw [HR.out]; simp; omega, Kept.alloc (Below.refl _ _) _⟩
end Go.Proofs.YtpbafjcoomfooaaGreat
