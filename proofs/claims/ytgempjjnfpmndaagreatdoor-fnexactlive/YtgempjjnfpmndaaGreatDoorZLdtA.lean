/-
  To which block a value leads (chapter 8's program): the contract of leadsTo.
-/
import Derived.Test.YtgempjjnfpmndaaGreatDoorGrpSc
import Derived.Test.YtgempjjnfpmndaaGreatDoorGrpHs
namespace Go.Proofs.YtgempjjnfpmndaaGreatDoor
open Go.RowKit

/-- What leadsTo tells. -/
def leadV (zs : List Int) (v : Int) : Bool := decide (4 ≤ v % 8) && (valR zs 11 v || valR zs 6 v)
theorem valR_lead {zs : List Int} {r v : Int} (h : valR zs r v = true) : leadV zs v = decide (4 ≤ v % 8) := by
  unfold leadV
  by_cases h4 : 4 ≤ v % 8
  · have hm : v % 8 < 8 := by omega
    simp only [decide_eq_true h4, Bool.true_and]
    unfold valR at h ⊢
    simp only [decide_eq_true h4, Bool.not_true, Bool.false_or, Bool.and_eq_true, decide_eq_true_eq] at h ⊢
    obtain ⟨⟨h1, h2⟩, h3⟩ := h
    rw [h1, h3]
    have t11 : takesR 11 (v % 8) = true := by simp [takesR]
    rw [t11]
    by_cases hr : r = 6
    · subst hr
      rw [h2]
      simp
    · have e : goalR r (v % 8) = goalR 11 (v % 8) := by unfold goalR; simp [hr]
      rw [e]
      simp
  · simp [h4]
theorem lead_kind {zs : List Int} {v : Int} (h : leadV zs v = true) : 4 ≤ v % 8 ∧ 1 ≤ kindAt zs (v / 8) := by
  unfold leadV at h
  simp only [Bool.and_eq_true, Bool.or_eq_true, decide_eq_true_eq] at h
  refine ⟨h.1, ?_⟩
  rcases h.2 with h2 | h2
  all_goals (
    unfold valR at h2
    simp only [decide_eq_true h.1, Bool.not_true, Bool.false_or, Bool.and_eq_true, decide_eq_true_eq] at h2
    rw [h2.2]
    exact goal_pos _ _)
theorem slots_val {zs : List Int} (hok : slabOk zs = true) {b : BkOf zs.length} (hb : b ∈ blocks zs) (hr : blkR zs b.1.at' b.1.size b.1.kind = true) : ∀ v ∈ (slotsL zs ((b.1.at' : Nat) : Int)).map (fun j => hz zs j.toNat), ∃ r, valR zs r v = true := by
  have ha := atB_mem hok hb
  have hlen := (slabOk_iff.1 hok).1
  have hble := b.2.2.1
  have hk5 := b.2.2.2
  intro v hv
  unfold slotsL at hv
  rw [ha] at hv
  obtain ⟨x, hx, rfl⟩ := List.mem_map.1 hv
  obtain ⟨k, hk, e⟩ := List.getElem_of_mem hx
  simp only at hk e
  have hoff : 1 ≤ slOff b.1.kind := by unfold slOff; split <;> omega
  have hk' := hk
  rw [slL, someL_len] at hk'
  have e' : x = ((b.1.at' + slOff b.1.kind + k : Nat) : Int) := by
    rw [← e]
    have := someL_at (a := b.1.at' + slOff b.1.kind) hk'
    rw [← this]
    unfold hz slL
    rw [List.getElem?_eq_getElem (by rw [someL_len]; exact hk')]
    rfl
  rw [e', Int.toNat_natCast]
  unfold blkR at hr
  rw [Bool.and_eq_true, wordsR_iff] at hr
  have hw := hr.2 (slOff b.1.kind + k) (by omega) (by omega)
  have hrole := role_value hk5 (hz zs (b.1.at' + 1)) (k := slOff b.1.kind + k) (by omega) (by omega)
  rw [show decide (slOff b.1.kind ≤ slOff b.1.kind + k ∧ slOff b.1.kind + k < slOff b.1.kind + slMany b.1.kind) = true by simp; omega] at hrole
  simp only [decide_eq_true_eq] at hrole
  rw [show b.1.at' + (slOff b.1.kind + k) = b.1.at' + slOff b.1.kind + k by omega] at hw
  unfold wordR at hw
  rw [if_neg (by omega), if_neg (by omega), if_neg (by omega), if_neg (by omega), if_neg (by omega)] at hw
  exact ⟨_, hw⟩
set_option maxHeartbeats 4000000 in
set_option maxRecDepth 100000 in
theorem leadsTo_yes (w : World) (lo : Option Addr) (lc : Nat) (zs : List Int) (v : Int) (hI : Ints w lo (lyt zs)) (h0 : -9223372036854775808 ≤ v) (h1 : v ≤ 9223372036854775807) (hy : leadV zs v = true) :
    Calls Tryz.prog 177 #[.slice lo zs.length lc, .int .i64 v] w fun e w' => e = .returned (.tuple #[.int .i64 (v / 8), .bool true]) ∧ w = w' := by
  unfold leadV at hy
  simp only [Bool.and_eq_true, Bool.or_eq_true, decide_eq_true_eq] at hy
  obtain ⟨h4, hy⟩ := hy
  have hV := fun r => valueOk_ok w lo lc zs r v hI h0 h1
  have hK := impl_Kind_ok v w
  have hL := leads_ok (v % 8) w (by omega)
  have hN := impl_Num_ok v w h0 h1
  rw [decide_eq_true h4] at hL
  have V11 := hV 11
  have V6 := hV 6
  clear hV hI
  cases h11 : valR zs 11 v with
  | true =>
    rw [h11] at V11
    clear h11 V6 hy
    go_enter Tryz.func177, Tryz.ntmps177
    go_wp2_with fail
    refine hK.mono ?_
    rintro e w1 ⟨rfl, rfl⟩
    go_wp2_with fail
    refine hL.mono ?_
    rintro e w1 ⟨rfl, rfl⟩
    go_wp2_with fail
    refine V11.mono ?_
    rintro e w1 ⟨rfl, rfl⟩
    go_wp2_with fail
    refine hN.mono ?_
    rintro e w1 ⟨rfl, rfl⟩
    go_wp2_with fail
    go_ret2
    exact ⟨rfl, rfl⟩
  | false =>
    have h6 : valR zs 6 v = true := by
      rcases hy with h | h
      · rw [h11] at h; cases h
      · exact h
    rw [h11] at V11
    rw [h6] at V6
    clear h11 h6 hy
    go_enter Tryz.func177, Tryz.ntmps177
    go_wp2_with fail
    refine hK.mono ?_
    rintro e w1 ⟨rfl, rfl⟩
    go_wp2_with fail
    refine hL.mono ?_
    rintro e w1 ⟨rfl, rfl⟩
    go_wp2_with fail
    refine V11.mono ?_
    rintro e w1 ⟨rfl, rfl⟩
    go_wp2_with fail
    refine V6.mono ?_
    rintro e w1 ⟨rfl, rfl⟩
    go_wp2_with fail
    refine hN.mono ?_
    rintro e w1 ⟨rfl, rfl⟩
    go_wp2_with fail
    go_ret2
    exact ⟨rfl, rfl⟩
set_option maxHeartbeats 4000000 in
set_option maxRecDepth 100000 in
theorem leadsTo_no (w : World) (lo : Option Addr) (lc : Nat) (zs : List Int) (v : Int) (hI : Ints w lo (lyt zs)) (h0 : -9223372036854775808 ≤ v) (h1 : v ≤ 9223372036854775807) (hy : leadV zs v = false) :
    Calls Tryz.prog 177 #[.slice lo zs.length lc, .int .i64 v] w fun e w' => e = .returned (.tuple #[.int .i64 0, .bool false]) ∧ w = w' := by
  unfold leadV at hy
  have hV := fun r => valueOk_ok w lo lc zs r v hI h0 h1
  have hK := impl_Kind_ok v w
  have hL := leads_ok (v % 8) w (by omega)
  have V11 := hV 11
  have V6 := hV 6
  clear hV hI
  by_cases h4 : 4 ≤ v % 8
  · rw [decide_eq_true h4] at hL hy
    simp only [Bool.true_and, Bool.or_eq_false_iff] at hy
    rw [hy.1] at V11
    rw [hy.2] at V6
    clear hy
    go_enter Tryz.func177, Tryz.ntmps177
    go_wp2_with fail
    refine hK.mono ?_
    rintro e w1 ⟨rfl, rfl⟩
    go_wp2_with fail
    refine hL.mono ?_
    rintro e w1 ⟨rfl, rfl⟩
    go_wp2_with fail
    refine V11.mono ?_
    rintro e w1 ⟨rfl, rfl⟩
    go_wp2_with fail
    refine V6.mono ?_
    rintro e w1 ⟨rfl, rfl⟩
    go_wp2_with fail
    go_ret2
    exact ⟨rfl, rfl⟩
  · rw [decide_eq_false h4] at hL
    clear hy V11 V6
    go_enter Tryz.func177, Tryz.ntmps177
    go_wp2_with fail
    refine hK.mono ?_
    rintro e w1 ⟨rfl, rfl⟩
    go_wp2_with fail
    refine hL.mono ?_
    rintro e w1 ⟨rfl, rfl⟩
    go_wp2_with fail
    go_ret2
    exact ⟨rfl, rfl⟩
end Go.Proofs.YtgempjjnfpmndaaGreatDoor
