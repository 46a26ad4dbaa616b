/-
  The contract of chapter 7's model l7Digits.
-/
import Derived.Test.YthmabhglmgnamaaDoorSlabI
import Derived.Laws.Concat
import Derived.Laws.BytesArg
namespace Go.Proofs.YthmabhglmgnamaaDoor
open Go.RowKit
attribute [local go_sem] Plain.and7

theorem strs_app (xs ys : List Int) : strOfNums xs ++ strOfNums ys = strOfNums (xs ++ ys) := by
  unfold strOfNums
  rw [ByteArray.mk_append_mk]
  simp
/-- The digits of a number above 0. -/
def digN (m : Nat) : List Int := if m = 0 then [] else digN (m / 10) ++ [48 + ((m % 10 : Nat) : Int)]
  termination_by m
  decreasing_by omega
theorem digN_zero : digN 0 = [] := by rw [digN]; simp
theorem digN_pos {m : Nat} (h : m ≠ 0) : digN m = digN (m / 10) ++ [48 + ((m % 10 : Nat) : Int)] := by
  rw [digN, if_neg h]
theorem digN_len : ∀ (k m : Nat), m < 10 ^ k → (digN m).length ≤ k
  | 0, m, h => by
    have : m = 0 := by simpa using h
    subst this
    rw [digN_zero]
    simp
  | k + 1, m, h => by
    by_cases h0 : m = 0
    · subst h0; rw [digN_zero]; simp
    · rw [digN_pos h0, List.length_append]
      have : m / 10 < 10 ^ k := by rw [Nat.pow_succ] at h; omega
      have := digN_len k (m / 10) this
      simpa using this
def digI (n : Int) : List Int := if n = 0 then [48] else (if n < 0 then [45] else []) ++ digN n.natAbs
theorem digI_len {n : Int} (h : -9223372036854775808 ≤ n ∧ n ≤ 9223372036854775807) : (digI n).length ≤ 21 := by
  have := digN_len 20 n.natAbs (by omega)
  unfold digI
  split
  · simp
  · split <;> simp <;> omega
theorem conv_one7 (W : World) (x : Int) : (convert 70 9 (.slice (some ⟨W.heap.size, 0, none⟩) 1 1)).run Tryd.prog (W.alloc (.cells #[.int .u8 x] 5)) = .ok (.string (strOfNums [x])) (W.alloc (.cells #[.int .u8 x] 5)) :=
  run_convert_bytes_arg _ 70 5 Tryd.underlying70 Tryd.underlying5 W.heap.size 0 1 1 [x] rfl (fun j hj => by
    obtain rfl : j = 0 := by simpa using hj
    exact (Cells.new W 5 #[.int .u8 x]).cell 0) 9 Tryd.underlying9
set_option maxHeartbeats 8000000 in
set_option maxRecDepth 100000 in
theorem l7Digits_ok (w : World) (n0 : Int) (hn0 : -9223372036854775808 ≤ n0 ∧ n0 ≤ 9223372036854775807) :
    Calls Tryd.prog 22 #[.int .i64 n0] w fun e w' => e = .returned (.string (strOfNums (digI n0))) ∧ Kept w w' := by
  by_cases h0 : n0 = 0
  · subst h0
    have HD : Hid (digI 0 = [48]) := by simp [Hid, digI]
    go_enter Tryd.func22, Tryd.ntmps22
    go_wp2_with fail
    go_ret
    exact ⟨by rw [HD.out]; rfl, Below.refl _ _⟩
  · have hd0 : (n0 == 0) = false := by simpa using h0
    obtain ⟨neg, hneg⟩ : ∃ neg, decide (n0 < 0) = neg := ⟨_, rfl⟩
    have HD : Hid (digI n0 = (if neg then [45] else []) ++ digN n0.natAbs) := by
      rw [Hid, digI, if_neg h0, ← hneg]
      by_cases h : n0 < 0 <;> simp [h]
    have hl0 := digN_len 20 n0.natAbs (by omega)
    have H0 : Hid _ := h0
    clear h0
    go_enter Tryd.func22, Tryd.ntmps22
    go_wp2_with fail
    go_loopw [0, 4] (fun nv o wr => ∃ (n : Int) (xs : List Int), nv = .int .i64 n ∧ o = .string (strOfNums xs) ∧ digN n.natAbs ++ xs = digN n0.natAbs ∧ (-9223372036854775808 ≤ n ∧ n ≤ 9223372036854775807) ∧ Kept w wr) (fun nv _ _ => (intOf nv).natAbs)
    case atStart => exact ⟨n0, [], rfl, rfl, by simp, hn0, Below.refl _ _⟩
    case round =>
      obtain ⟨n, xs, rfl, rfl, hx, hb, hK⟩ := hrel
      have hxl : xs.length ≤ 20 := by
        have := congrArg List.length hx
        rw [List.length_append] at this
        omega
      have hxs : (strOfNums xs).size = xs.length := strOfNums_size xs
      have HK : Hid _ := hK
      have HX : Hid _ := hx
      clear hK hx
      by_cases h0 : n = 0
      · subst h0
        have HX2 : Hid (xs = digN n0.natAbs) := by have := HX.out; rw [Int.natAbs_zero, digN_zero, List.nil_append] at this; exact this
        have hsz : ¬ 9223372036854775807 < (ByteArray.mk #[45]).size + (strOfNums xs).size := by rw [hxs]; show ¬ _ < 1 + _; omega
        have hsb : (ByteArray.mk #[45] ++ strOfNums xs) = strOfNums ([45] ++ xs) := strs_app [45] xs
        have HSB : Hid _ := hsb
        clear hsb
        cases neg with
        | true =>
          go_wp2_with fail
          go_ret
          refine ⟨?_, HK.out⟩
          rw [HD.out, ← HX2.out]
          show Ending.returned (Value.string (ByteArray.mk #[45] ++ strOfNums xs)) = Ending.returned (Value.string (strOfNums ([45] ++ xs)))
          rw [HSB.out]
        | false =>
          go_wp2_with fail
          go_ret
          refine ⟨?_, HK.out⟩
          rw [HD.out, ← HX2.out]
          rfl
      · have hd : (n != 0) = true := by simpa using h0
        obtain ⟨m, hm⟩ : ∃ m, n.natAbs = m := ⟨_, rfl⟩
        obtain ⟨r, hr⟩ : ∃ r, m % 10 = r := ⟨_, rfl⟩
        obtain ⟨q, hq⟩ : ∃ q, m / 10 = q := ⟨_, rfl⟩
        have hm0 : m ≠ 0 := by omega
        have HR : Hid (m % 10 = r) := hr
        have HQ : Hid (m / 10 = q) := hq
        have hr9 : r < 10 := by omega
        have hqm : q < m := by omega
        have hmb : (m : Int) ≤ 9223372036854775808 := by omega
        have wr1 : IntKind.i64.wrap (48 + (r : Int)) = 48 + (r : Int) := by rw [IntWalk.i64_left, IntWalk.wrap64_in _ (by omega)]
        have md1 : (48 + (r : Int)) % 256 = 48 + (r : Int) := by omega
        have hcv := conv_one7 wr (48 + (r : Int))
        have hsz : ¬ 9223372036854775807 < (strOfNums [48 + (r : Int)]).size + (strOfNums xs).size := by rw [hxs, strOfNums_size]; simp; omega
        have kA : Kept wr (wr.alloc (.cells #[.int .u8 (48 + (r : Int))] 5)) := Kept.alloc (Below.refl _ _) _
        by_cases hp : n < 0
        · obtain rfl : n = -(m : Int) := by omega
          have hdv : (-(m : Int)).tdiv 10 = -(q : Int) := by rw [Int.neg_tdiv, Int.tdiv_eq_ediv_of_nonneg (by omega)]; omega
          have hmd : (-(m : Int)).tmod 10 = -(r : Int) := by rw [Int.neg_tmod, Int.tmod_eq_emod_of_nonneg (by omega)]; omega
          clear hm hr hq h0 hd hp
          have hd : (-(m : Int) != 0) = true := by simp; omega
          by_cases h00 : r = 0
          · have hmd0 : (-(m : Int)).tmod 10 = 0 := by rw [hmd, h00]; rfl
            have HR0 : Hid (m % 10 = 0) := by rw [Hid, HR.out, h00]
            clear hmd wr1 md1 hcv hsz kA HR h00
            have HR : Hid _ := HR0
            have hcv := conv_one7 wr 48
            have hsz : ¬ 9223372036854775807 < (strOfNums [48]).size + (strOfNums xs).size := by rw [hxs, strOfNums_size]; simp; omega
            have kA : Kept wr (wr.alloc (.cells #[.int .u8 48] 5)) := Kept.alloc (Below.refl _ _) _
            go_wp2_with fail
            go_roundw
            case rel =>
              refine ⟨-(q : Int), [48] ++ xs, rfl, by rw [strs_app], ?_, by omega, Kept.trans HK.out kA⟩
              have e1 := HX.out
              rw [Int.natAbs_neg, Int.natAbs_natCast, digN_pos hm0, HQ.out, HR.out, List.append_assoc] at e1
              rw [Int.natAbs_neg, Int.natAbs_natCast]
              exact e1
            case measure => simp [intOf]; omega
          · have dn : decide (-(r : Int) < 0) = true := by simp; omega
            have wn : IntKind.i64.wrap (0 - -(r : Int)) = (r : Int) := by rw [IntWalk.i64_left, IntWalk.wrap64_in _ (by omega)]; omega
            go_wp2_with fail
            go_roundw
            case rel =>
              refine ⟨-(q : Int), [48 + (r : Int)] ++ xs, rfl, by rw [strs_app], ?_, by omega, Kept.trans HK.out kA⟩
              have e1 := HX.out
              rw [Int.natAbs_neg, Int.natAbs_natCast, digN_pos hm0, HQ.out, HR.out, List.append_assoc] at e1
              rw [Int.natAbs_neg, Int.natAbs_natCast]
              exact e1
            case measure => simp [intOf]; omega
        · obtain rfl : n = (m : Int) := by omega
          have hdv : ((m : Int)).tdiv 10 = (q : Int) := by rw [Int.tdiv_eq_ediv_of_nonneg (by omega)]; omega
          have hmd : ((m : Int)).tmod 10 = (r : Int) := by rw [Int.tmod_eq_emod_of_nonneg (by omega)]; omega
          have dn : decide ((r : Int) < 0) = false := by simp
          clear hm hr hq h0 hd hp
          have hd : ((m : Int) != 0) = true := by simp; omega
          go_wp2_with fail
          go_roundw
          case rel =>
            refine ⟨(q : Int), [48 + (r : Int)] ++ xs, rfl, by rw [strs_app], ?_, by omega, Kept.trans HK.out kA⟩
            have e1 := HX.out
            rw [Int.natAbs_natCast, digN_pos hm0, HQ.out, HR.out, List.append_assoc] at e1
            rw [Int.natAbs_natCast]
            exact e1
          case measure => simp [intOf]; omega
end Go.Proofs.YthmabhglmgnamaaDoor
