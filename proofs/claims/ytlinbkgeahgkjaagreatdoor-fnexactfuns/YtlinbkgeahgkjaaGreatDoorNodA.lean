/-
  The contracts of spec.Size and spec.Deep.
-/
import Derived.Test.YtlinbkgeahgkjaaGreatDoorNodP
namespace Go.Proofs.YtlinbkgeahgkjaaGreatDoor
open Go.RowKit
attribute [local go_sem] Plain.and7

set_option maxHeartbeats 8000000 in
set_option maxRecDepth 100000 in
theorem spec_Size_ok : ∀ (m : Nat) (t : Nd), t.size ≤ m → ∀ (w : World) (base : Nat) (v : Value), NdV w base t v → t.size ≤ 1152921504606846976 →
    Calls Tryz.prog 23 #[v] w fun e w' => e = .returned (.int .i64 (t.size : Nat)) ∧ Kept w w' := by
  intro m
  induction m with
  | zero =>
    intro t ht
    cases t with
    | mk op s n ks => simp [Nd.size] at ht
  | succ m ih =>
    intro t ht w base v hv hb
    cases t with
    | mk op s n ks =>
    rw [NdV] at hv
    obtain ⟨ao, cap, rfl, hml, hks⟩ := hv
    simp only [Nd.size] at ht hb ⊢
    have b0 := Cells.new w 29 #[.int .i64 op, .string s, .int .i64 n, .slice ao ks.length cap]
    have k0 : Kept w (w.alloc (.cells #[.int .i64 op, .string s, .int .i64 n, .slice ao ks.length cap] 29)) := Kept.alloc (Below.refl _ _) _
    have HIH : Hid (∀ (t : Nd), t.size ≤ m → ∀ (w : World) (base : Nat) (v : Value), NdV w base t v → t.size ≤ 1152921504606846976 → Calls Tryz.prog 23 #[v] w fun e w' => e = .returned (.int .i64 (t.size : Nat)) ∧ Kept w w') := ih
    have HKS : Hid (ks = [] ∨ ∃ b off, ao = some ⟨b, off, none⟩ ∧ base ≤ b ∧ NdsV w base b off ks) := hks
    clear ih hks
    go_enter Tryz.func23, Tryz.ntmps23
    go_wp2_with fail
    go_loopw [3, 4] (fun ov iv wr => ∃ (k : Nat), iv = .int .i64 k ∧ k ≤ ks.length ∧ ov = .int .i64 ((1 + sizesN (ks.take k) : Nat) : Int) ∧ Hid (Kept (w.alloc (.cells #[.int .i64 op, .string s, .int .i64 n, .slice ao ks.length cap] 29)) wr)) (fun _ i _ => ks.length - (intOf i).toNat)
    case atStart => exact ⟨0, rfl, Nat.zero_le _, by simp [sizesN], Below.refl _ _⟩
    case round =>
      obtain ⟨k, rfl, hk, rfl, hK⟩ := hrel
      have c3 := (b0.kept hK.out).cell 3
      by_cases hlt : k < ks.length
      · obtain ⟨x, hx⟩ : ∃ x, ks[k]? = some x := ⟨ks[k], List.getElem?_eq_getElem hlt⟩
        have q1 : (k : Int) < (ks.length : Int) := by omega
        have hsz := size_mem hx
        have hll := len_sizes ks
        have q2 : (k : Int) + 1 ≤ 9223372036854775807 := by omega
        have hst := sizes_take hx
        have hsl := sizes_le (ks := ks) (k + 1)
        obtain ⟨b, off, rfl, hbb, hn⟩ : ∃ b off, ao = some ⟨b, off, none⟩ ∧ base ≤ b ∧ NdsV w base b off ks := by
          rcases HKS.out with h | h
          · rw [h] at hlt; simp at hlt
          · exact h
        obtain ⟨d0, d1, d2, d3, g0, g1, g2, g3, hv⟩ := (NdsV.turn (Turn.kept (k0.trans hK.out)) _ _ _ hbb hn).at hx
        have hC := HIH.out x (by omega) wr base _ hv (by omega)
        have HV : Hid _ := hv
        clear hv hn
        go_wp2_with (go_at_call 23; refine hC.mono ?_; rintro e wx ⟨rfl, hkx⟩)
        refine ⟨⟨k + 1, by go_num, by omega, by rw [hst]; go_num, hK.out.trans hkx⟩, by simp [intOf]; omega⟩
      · have HS : Hid (sizesN (ks.take k) = sizesN ks) := by rw [Hid, show k = ks.length by omega, List.take_length]
        have q1 : ¬ (k : Int) < (ks.length : Int) := by omega
        go_wp2_with fail
        go_ret
        exact ⟨by show Ending.returned (Value.int .i64 _) = _; rw [HS.out], k0.trans hK.out⟩
theorem spec_l1Max_ok (a b : Int) (w : World) : Calls Tryz.prog 32 #[.int .i64 a, .int .i64 b] w fun e w' => e = .returned (.int .i64 (max a b)) ∧ w = w' := by
  by_cases h : b < a
  · have HM : Hid (max a b = a) := by rw [Hid]; omega
    go_enter Tryz.func32, Tryz.ntmps32
    go_wp2
    go_ret
    exact ⟨by rw [HM.out]; rfl, rfl⟩
  · have HM : Hid (max a b = b) := by rw [Hid]; omega
    go_enter Tryz.func32, Tryz.ntmps32
    go_wp2
    go_ret
    exact ⟨by rw [HM.out]; rfl, rfl⟩
set_option maxHeartbeats 8000000 in
set_option maxRecDepth 100000 in
theorem spec_Deep_ok : ∀ (m : Nat) (t : Nd), t.size ≤ m → ∀ (w : World) (base : Nat) (v : Value), NdV w base t v → t.size ≤ 1152921504606846976 →
    Calls Tryz.prog 22 #[v] w fun e w' => e = .returned (.int .i64 (t.deep : Nat)) ∧ Kept w w' := by
  intro m
  induction m with
  | zero =>
    intro t ht
    cases t with
    | mk op s n ks => simp [Nd.size] at ht
  | succ m ih =>
    intro t ht w base v hv hb
    cases t with
    | mk op s n ks =>
    rw [NdV] at hv
    obtain ⟨ao, cap, rfl, hml, hks⟩ := hv
    simp only [Nd.size] at ht hb
    simp only [Nd.deep]
    have b0 := Cells.new w 29 #[.int .i64 op, .string s, .int .i64 n, .slice ao ks.length cap]
    have k0 : Kept w (w.alloc (.cells #[.int .i64 op, .string s, .int .i64 n, .slice ao ks.length cap] 29)) := Kept.alloc (Below.refl _ _) _
    have HIH : Hid (∀ (t : Nd), t.size ≤ m → ∀ (w : World) (base : Nat) (v : Value), NdV w base t v → t.size ≤ 1152921504606846976 → Calls Tryz.prog 22 #[v] w fun e w' => e = .returned (.int .i64 (t.deep : Nat)) ∧ Kept w w') := ih
    have HKS : Hid (ks = [] ∨ ∃ b off, ao = some ⟨b, off, none⟩ ∧ base ≤ b ∧ NdsV w base b off ks) := hks
    clear ih hks
    go_enter Tryz.func22, Tryz.ntmps22
    go_wp2_with fail
    go_loopw [3, 4] (fun ov iv wr => ∃ (k : Nat), iv = .int .i64 k ∧ k ≤ ks.length ∧ ov = .int .i64 ((deepsN (ks.take k) : Nat) : Int) ∧ Hid (Kept (w.alloc (.cells #[.int .i64 op, .string s, .int .i64 n, .slice ao ks.length cap] 29)) wr)) (fun _ i _ => ks.length - (intOf i).toNat)
    case atStart => exact ⟨0, rfl, Nat.zero_le _, by simp [deepsN], Below.refl _ _⟩
    case round =>
      obtain ⟨k, rfl, hk, rfl, hK⟩ := hrel
      have c3 := (b0.kept hK.out).cell 3
      by_cases hlt : k < ks.length
      · obtain ⟨x, hx⟩ : ∃ x, ks[k]? = some x := ⟨ks[k], List.getElem?_eq_getElem hlt⟩
        have q1 : (k : Int) < (ks.length : Int) := by omega
        have hsz := size_mem hx
        have hll := len_sizes ks
        have q2 : (k : Int) + 1 ≤ 9223372036854775807 := by omega
        have hst := deeps_take hx
        have hdl := x.deep_le
        have hdk := deeps_le (ks.take k)
        have hdm := sizes_le (ks := ks) k
        have hsl := sizes_le (ks := ks) (k + 1)
        obtain ⟨b, off, rfl, hbb, hn⟩ : ∃ b off, ao = some ⟨b, off, none⟩ ∧ base ≤ b ∧ NdsV w base b off ks := by
          rcases HKS.out with h | h
          · rw [h] at hlt; simp at hlt
          · exact h
        obtain ⟨d0, d1, d2, d3, g0, g1, g2, g3, hv⟩ := (NdsV.turn (Turn.kept (k0.trans hK.out)) _ _ _ hbb hn).at hx
        have hC := HIH.out x (by omega) wr base _ hv (by omega)
        have HV : Hid _ := hv
        clear hv hn
        go_wp2_with (first | (go_at_call 32; refine (spec_l1Max_ok _ _ _).mono ?_; rintro e wy ⟨rfl, rfl⟩) | (go_at_call 22; refine hC.mono ?_; rintro e wx ⟨rfl, hkx⟩))
        refine ⟨⟨k + 1, by go_num, by omega, by rw [hst]; congr 1; omega, hK.out.trans hkx⟩, by simp [intOf]; omega⟩
      · have HS : Hid (deepsN (ks.take k) = deepsN ks) := by rw [Hid, show k = ks.length by omega, List.take_length]
        have q1 : ¬ (k : Int) < (ks.length : Int) := by omega
        have hdk := deeps_le (ks.take k)
        have hdm := sizes_le (ks := ks) k
        have q3 : ((deepsN (ks.take k) : Nat) : Int) + 1 ≤ 9223372036854775807 := by omega
        have q4 : (-9223372036854775808 : Int) ≤ ((deepsN (ks.take k) : Nat) : Int) + 1 := by omega
        go_wp2_with fail
        go_ret
        exact ⟨by show Ending.returned (Value.int .i64 _) = _; rw [HS.out], k0.trans hK.out⟩
end Go.Proofs.YtlinbkgeahgkjaaGreatDoor
