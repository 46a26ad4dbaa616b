/-
  The contracts of chapter 7's models Reach and l7Digits.
-/
import Derived.Test.YtblonbdagidfjaaRchB
import Derived.Laws.Concat
import Derived.Laws.BytesArg
namespace Go.Proofs.Ytblonbdagidfjaa
open Go.RowKit
attribute [local go_sem] Plain.and7

/-- What Reach tells. -/
def reachL (zs rs : List Int) : List Int := if rootsR zs rs = true then sortL (ordL zs rs) else []
set_option maxHeartbeats 8000000 in
set_option maxRecDepth 100000 in
theorem spec_Reach_ok (w : World) (ao ro : Option Addr) (cap rc : Nat) (zs rs : List Int) (hI : Ints w ao zs) (hl : zs.length ≤ 1048576) (hR : Ints w ro rs) (hrl : rs.length ≤ 1048576) :
    Calls Try.prog 7 #[.agg #[.slice ao zs.length cap], .slice ro rs.length rc] w fun e w' => ∃ v, e = .returned v ∧ OwnL w' w.heap.size v (reachL zs rs) ∧ Kept w w' := by
  have b0 := Cells.new w 27 #[.slice ao zs.length cap]
  have k0 : Kept w (w.alloc (.cells #[.slice ao zs.length cap] 27)) := Kept.alloc (Below.refl _ _) _
  have hRo := spec_RootsOk_ok _ ao ro cap rc zs rs (hI.kept k0) hl (hR.kept k0) hrl
  cases hr : rootsR zs rs with
  | false =>
    have HR : Hid (reachL zs rs = []) := by simp [Hid, reachL, hr]
    rw [hr] at hRo
    clear hr hI hR
    go_enter Try.func7, Try.ntmps7
    go_wp2_with (go_at_call 24; refine hRo.mono ?_; rintro e w1 ⟨rfl, hk1⟩)
    go_ret
    have hs1 := (k0.trans hk1).size
    refine ⟨.slice (some ⟨w1.heap.size, 0, none⟩) 0 0, rfl, ?_, Kept.alloc (k0.trans hk1) _⟩
    rw [HR.out]
    refine ⟨by simp, ?_⟩
    have := World.ownsRow_made (base := w1.heap.size) (e := 3) (size := 1) w1 #[] 0 (by simp) (by unfold maxLen; omega) (by simp)
    exact ownsRow_base (by simpa using this) hs1
  | true =>
    have HR : Hid (reachL zs rs = sortL (ordL zs rs)) := by simp [Hid, reachL, hr]
    rw [hr] at hRo
    have hol := (ordL_met hr).len
    have HOr : Hid _ := fun (u : World) (hu : Kept w u) => l7Order_ok u ao ro cap rc zs rs (hI.kept hu) hl (hR.kept hu) hrl hr
    clear hr hI hR
    go_enter Try.func7, Try.ntmps7
    go_wp2_with (first | (go_at_call 24; refine hRo.mono ?_; rintro e w1 ⟨rfl, hk1⟩; have c1 := (b0.kept hk1).cell 0) | (go_at_call 26; refine (HOr.out _ (k0.trans hk1)).mono ?_; rintro e w2 ⟨v2, rfl, hO2, hk2⟩; obtain ⟨oa, oc, rfl, hI2⟩ := hO2.ints) | (go_at_call 25; refine (l7Sort_ok _ oa oc _ hI2 (by omega)).mono ?_; rintro e w3 ⟨v3, rfl, hO3, hk3⟩))
    go_ret
    have K2 := (k0.trans hk1).trans hk2
    refine ⟨_, rfl, ?_, K2.trans hk3⟩
    rw [HR.out]
    exact ⟨hO3.1, ownsRow_base hO3.2 K2.size⟩
theorem strs_app (xs ys : List Int) : strOfNums xs ++ strOfNums ys = strOfNums (xs ++ ys) := by
  unfold strOfNums
  rw [ByteArray.mk_append_mk]
  simp
/-- The digits of a number above 0. -/
def digN (m : Nat) : List Int := if m = 0 then [] else digN (m / 10) ++ [48 + ((m % 10 : Nat) : Int)]
  termination_by m
  decreasing_by omega
theorem digN_zero : digN 0 = [] := by rw [digN]; simp
theorem digN_pos {m : Nat} (h : m ≠ 0) : digN m = digN (m / 10) ++ [48 + ((m % 10 : Nat) : Int)] := by
  rw [digN, if_neg h]
theorem digN_len : ∀ (k m : Nat), m < 10 ^ k → (digN m).length ≤ k
  | 0, m, h => by
    have : m = 0 := by simpa using h
    subst this
    rw [digN_zero]
    simp
  | k + 1, m, h => by
    by_cases h0 : m = 0
    · subst h0; rw [digN_zero]; simp
    · rw [digN_pos h0, List.length_append]
      have : m / 10 < 10 ^ k := by rw [Nat.pow_succ] at h; omega
      have := digN_len k (m / 10) this
      simpa using this
def digI (n : Int) : List Int := if n = 0 then [48] else (if n < 0 then [45] else []) ++ digN n.natAbs
theorem digI_len {n : Int} (h : -9223372036854775808 ≤ n ∧ n ≤ 9223372036854775807) : (digI n).length ≤ 21 := by
  have := digN_len 20 n.natAbs (by omega)
  unfold digI
  split
  · simp
  · split <;> simp <;> omega
end Go.Proofs.Ytblonbdagidfjaa
