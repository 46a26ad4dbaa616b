/-
  The contracts of chapter 3's models that look at one value, and of those that go over some words.
-/
import Derived.Test.YtpbafjcoomfooaaGreatShapeC
import Derived.Test.YtpbafjcoomfooaaGreatSlabS
namespace Go.Proofs.YtpbafjcoomfooaaGreat
open Go.RowKit
attribute [local go_sem] Plain.and7

def wantK (k inner : Int) : Int := if k = 4 then 1 else if k = 5 then 2 else if k = 6 then 4 else inner
def leadsR (zs : List Int) (v inner : Int) : Bool := vOk v && (decide (v % 8 < 4) || decide (kindAt zs (v / 8) = wantK (v % 8) inner))
def nextR (zs : List Int) (v inner : Int) : Bool := decide (v = 0) || (decide (v % 8 = 7) && leadsR zs v inner)
def plainR (zs : List Int) (v : Int) : Bool := decide (v % 8 ≠ 7) && leadsR zs v 0

set_option maxHeartbeats 8000000 in
set_option maxRecDepth 100000 in
theorem l3Leads_ok (w : World) (ao : Option Addr) (cap : Nat) (zs : List Int) (v inner : Int) (hI : Ints w ao zs) (hl : zs.length ≤ 1048576) (hok : slabOk zs = true) (h0 : -9223372036854775808 ≤ v) (h1 : v ≤ 9223372036854775807) (hi0 : 0 ≤ inner) :
    Calls Tryz.prog 51 #[.agg #[.slice ao zs.length cap], .int .i64 v, .int .i64 inner] w fun e w' => e = .returned (.bool (leadsR zs v inner)) ∧ Kept w w' := by
  have hL : zs.length * 8 ≤ 140737488351232 := by omega
  have b0 := Cells.new w 26 #[.slice ao zs.length cap]
  have k0 : Kept w (w.alloc (.cells #[.slice ao zs.length cap] 26)) := Kept.alloc (Below.refl _ _) _
  have c0 := b0.cell 0
  have hV := spec_ValueOk_ok v (w.alloc (.cells #[.slice ao zs.length cap] 26)) h0 h1
  cases hv : vOk v with
  | false =>
    have HR : Hid (leadsR zs v inner = false) := by simp [Hid, leadsR, hv]
    rw [hv] at hV
    clear hv hI
    go_enter Tryz.func51, Tryz.ntmps51
    go_wp2_with (first | (go_at_call 105; refine hV.mono ?_; rintro e wx ⟨rfl, rfl⟩))
    go_ret
    exact ⟨by rw [HR.out]; rfl, k0⟩
  | true =>
    rw [hv] at hV
    by_cases h4 : v % 8 < 4
    · have HR : Hid (leadsR zs v inner = true) := by simp [Hid, leadsR, hv, h4]
      have e4 : (v % 8 == 4) = false := by simp; omega
      have e5 : (v % 8 == 5) = false := by simp; omega
      have e6 : (v % 8 == 6) = false := by simp; omega
      have e7 : (v % 8 == 7) = false := by simp; omega
      clear hv hI
      go_enter Tryz.func51, Tryz.ntmps51
      go_wp2_with (first | (go_at_call 105; refine hV.mono ?_; rintro e wx ⟨rfl, rfl⟩) | (go_at_call 53; refine (spec_Num_ok _ _).mono ?_; rintro e wx ⟨rfl, rfl⟩) | (go_at_call 50; refine (spec_Kind_ok _ _).mono ?_; rintro e wx ⟨rfl, rfl⟩))
      go_ret
      exact ⟨by rw [HR.out]; rfl, k0⟩
    · have hIs := fun (w1 : World) (hI1 : Ints w1 ao zs) => l2Is_ok w1 ao cap zs (v / 8) hI1 hL hok
      unfold isAt at hIs
      have HR0 : leadsR zs v inner = decide (kindAt zs (v / 8) = wantK (v % 8) inner) := by simp [leadsR, hv, h4]
      have hwn : 0 ≤ wantK (v % 8) inner := by unfold wantK; repeat' split <;> omega
      cases hb : atB zs (v / 8) with
      | none =>
        have HR : Hid (leadsR zs v inner = false) := by
          show _ = _
          rw [HR0]
          simp only [kindAt, hb, decide_eq_false_iff_not]
          omega
        rw [hb] at hIs
        clear hv hb HR0 hwn hok
        rcases (show v % 8 = 4 ∨ v % 8 = 5 ∨ v % 8 = 6 ∨ v % 8 = 7 by omega) with h | h | h | h
        all_goals (
          clear h4
          go_enter Tryz.func51, Tryz.ntmps51
          go_wp2_with (first | (go_at_call 105; refine hV.mono ?_; rintro e wx ⟨rfl, rfl⟩) | (go_at_call 53; refine (spec_Num_ok _ _).mono ?_; rintro e wx ⟨rfl, rfl⟩) | (go_at_call 50; refine (spec_Kind_ok _ _).mono ?_; rintro e wx ⟨rfl, rfl⟩) | (go_at_call 106; refine (hIs _ (hI.kept k0)).mono ?_; rintro e w1 ⟨rfl, hk1⟩))
          go_ret
          exact ⟨by rw [HR.out]; rfl, k0.trans hk1⟩)
      | some b =>
        obtain ⟨_, e1, hg, hs, hq, _⟩ := atB_some hb
        have hKE : kindAt zs (v / 8) = hz zs b.1.at' % 8 := by simp [kindAt, hb, hq, kdI]
        rw [hKE] at HR0
        rw [hb] at hIs
        have hlt := hg.lt
        obtain ⟨bb, off, rfl, hc⟩ := hI.at hlt
        have hck := hc _ hlt
        have hbl : bb < w.heap.size := World.block_lt_of_cell? _ _ hck
        have hltI : ((b.1.at' : Nat) : Int) < (zs.length : Int) := by omega
        rcases (show v % 8 = 4 ∨ v % 8 = 5 ∨ v % 8 = 6 ∨ v % 8 = 7 by omega) with h | h | h | h
        all_goals (
          rw [h] at HR0
          have HR : Hid _ := HR0
          simp only [wantK] at HR
          rw [← e1] at hIs
          have hv8 : v / 8 = ((b.1.at' : Nat) : Int) := e1.symm
          clear hv hb HR0 hwn hok h4 hc hg hs hq hKE e1
          go_enter Tryz.func51, Tryz.ntmps51
          go_wp2_with (first | (go_at_call 105; refine hV.mono ?_; rintro e wx ⟨rfl, rfl⟩) | (go_at_call 53; refine (spec_Num_ok _ _).mono ?_; rintro e wx ⟨rfl, rfl⟩) | (go_at_call 50; refine (spec_Kind_ok _ _).mono ?_; rintro e wx ⟨rfl, rfl⟩) | (go_at_call 106; refine (hIs _ (hI.kept k0)).mono ?_; rintro e w1 ⟨rfl, hk1⟩; have d0 := (b0.kept hk1).cell 0; have ck := ((k0.trans hk1).cell (p := ⟨bb, off + b.1.at', none⟩) hbl).trans hck) | (go_at_call 96; refine (l2Kind_ok _ _).mono ?_; rintro e wx ⟨rfl, rfl⟩))
          go_ret
          exact ⟨by rw [HR.out]; first | rfl | (simp; done), k0.trans hk1⟩)
set_option maxHeartbeats 4000000 in
theorem l3Next_ok (w : World) (ao : Option Addr) (cap : Nat) (zs : List Int) (v inner : Int) (hI : Ints w ao zs) (hl : zs.length ≤ 1048576) (hok : slabOk zs = true) (h0 : -9223372036854775808 ≤ v) (h1 : v ≤ 9223372036854775807) (hi0 : 0 ≤ inner) :
    Calls Tryz.prog 125 #[.agg #[.slice ao zs.length cap], .int .i64 v, .int .i64 inner] w fun e w' => e = .returned (.bool (nextR zs v inner)) ∧ Kept w w' := by
  have b0 := Cells.new w 26 #[.slice ao zs.length cap]
  have k0 : Kept w (w.alloc (.cells #[.slice ao zs.length cap] 26)) := Kept.alloc (Below.refl _ _) _
  have hLd := l3Leads_ok _ ao cap zs v inner (hI.kept k0) hl hok h0 h1 hi0
  clear hI hok
  by_cases hv : v = 0
  · have HR : Hid (nextR zs v inner = true) := by simp [Hid, nextR, hv]
    have e0 : (v == 0) = true := by simp [hv]
    clear hv
    go_enter Tryz.func125, Tryz.ntmps125
    go_wp2
    go_ret
    exact ⟨by rw [HR.out]; rfl, k0⟩
  · have e0 : (v == 0) = false := by simpa using hv
    by_cases h7 : v % 8 = 7
    · have HR : Hid (nextR zs v inner = leadsR zs v inner) := by simp [Hid, nextR, hv, h7]
      clear hv
      go_enter Tryz.func125, Tryz.ntmps125
      go_wp2_with (first | (go_at_call 50; refine (spec_Kind_ok _ _).mono ?_; rintro e wx ⟨rfl, rfl⟩) | (go_at_call 51; refine hLd.mono ?_; rintro e w1 ⟨rfl, hk1⟩))
      go_ret
      exact ⟨by rw [HR.out]; rfl, k0.trans hk1⟩
    · have HR : Hid (nextR zs v inner = false) := by simp [Hid, nextR, hv, h7]
      have e7 : (v % 8 == 7) = false := by simpa using h7
      clear hv h7
      go_enter Tryz.func125, Tryz.ntmps125
      go_wp2_with (first | (go_at_call 50; refine (spec_Kind_ok _ _).mono ?_; rintro e wx ⟨rfl, rfl⟩))
      go_ret
      exact ⟨by rw [HR.out]; rfl, k0⟩
set_option maxHeartbeats 4000000 in
theorem l3Plain_ok (w : World) (ao : Option Addr) (cap : Nat) (zs : List Int) (v : Int) (hI : Ints w ao zs) (hl : zs.length ≤ 1048576) (hok : slabOk zs = true) (h0 : -9223372036854775808 ≤ v) (h1 : v ≤ 9223372036854775807) :
    Calls Tryz.prog 127 #[.agg #[.slice ao zs.length cap], .int .i64 v] w fun e w' => e = .returned (.bool (plainR zs v)) ∧ Kept w w' := by
  have b0 := Cells.new w 26 #[.slice ao zs.length cap]
  have k0 : Kept w (w.alloc (.cells #[.slice ao zs.length cap] 26)) := Kept.alloc (Below.refl _ _) _
  have hLd := l3Leads_ok _ ao cap zs v 0 (hI.kept k0) hl hok h0 h1 (by omega)
  clear hI hok
  by_cases h7 : v % 8 = 7
  · have HR : Hid (plainR zs v = false) := by simp [Hid, plainR, h7]
    go_enter Tryz.func127, Tryz.ntmps127
    go_wp2_with (first | (go_at_call 50; refine (spec_Kind_ok _ _).mono ?_; rintro e wx ⟨rfl, rfl⟩))
    go_ret
    exact ⟨by rw [HR.out]; rfl, k0⟩
  · have HR : Hid (plainR zs v = leadsR zs v 0) := by simp [Hid, plainR, h7]
    have e7 : (v % 8 != 7) = true := by simpa using h7
    go_enter Tryz.func127, Tryz.ntmps127
    go_wp2_with (first | (go_at_call 50; refine (spec_Kind_ok _ _).mono ?_; rintro e wx ⟨rfl, rfl⟩) | (go_at_call 51; refine hLd.mono ?_; rintro e w1 ⟨rfl, hk1⟩))
    go_ret
    exact ⟨by rw [HR.out]; rfl, k0.trans hk1⟩
end Go.Proofs.YtpbafjcoomfooaaGreat
