/-
  The contract of chapter 7's model l7Value.
-/
import Derived.Test.YtgnpllpinfhccaaGreatDoorRchC
namespace Go.Proofs.YtgnpllpinfhccaaGreatDoor
open Go.RowKit
attribute [local go_sem] Plain.and7

/-- A block's number, as it is shown. -/
def numL (order : List Int) (x : Int) : List Int := match order.findIdx? (fun y => decide (y = x)) with
  | some i => [32, 64] ++ digI (i : Nat)
  | none => [32, 64]
/-- A value, as it is shown. -/
def valL (v : Int) (order : List Int) : List Int :=
  if v % 8 = 0 then [32, 117, 110, 100, 101, 102] else if v % 8 = 1 then [32, 110, 117, 108, 108] else if v % 8 = 2 then (if v / 8 = 1 then [32, 116, 114, 117, 101] else [32, 102, 97, 108, 115, 101])
  else if v % 8 = 3 then [32] ++ digI (v / 8) else numL order (v / 8)
theorem numL_len {order : List Int} {x : Int} (hl : order.length ≤ 1048576) : (numL order x).length ≤ 24 := by
  unfold numL
  split
  · rename_i i hi
    have hlt := (List.findIdx?_eq_some_iff_getElem.1 hi).1
    have := digI_len (n := ((i : Nat) : Int)) (by omega)
    rw [List.length_append]
    simp
    omega
  · simp
theorem valL_len {v : Int} {order : List Int} (hv : -9223372036854775808 ≤ v ∧ v ≤ 9223372036854775807) (hl : order.length ≤ 1048576) : (valL v order).length ≤ 24 := by
  unfold valL
  have h1 := numL_len (x := v / 8) hl
  have h2 := digI_len (n := v / 8) (by omega)
  repeat' split
  all_goals (first | omega | (simp; done) | (rw [List.length_append]; simp; omega))
theorem findIdx_at {order : List Int} {x : Int} {k : Nat} (hno : ∀ j, j < k → hz order j ≠ x) (hk : k < order.length) (he : hz order k = x) : order.findIdx? (fun y => decide (y = x)) = some k := by
  have hg : ∀ j (hj : j < order.length), hz order j = order[j] := fun j hj => by unfold hz; rw [List.getElem?_eq_getElem hj]; rfl
  refine List.findIdx?_eq_some_iff_getElem.2 ⟨hk, by rw [← hg k hk]; simpa using he, fun j hj => ?_⟩
  have := hno j hj
  rw [hg j (by omega)] at this
  simpa using this
theorem findIdx_none {order : List Int} {x : Int} (hno : ∀ j, j < order.length → hz order j ≠ x) : order.findIdx? (fun y => decide (y = x)) = none := by
  refine List.findIdx?_eq_none_iff.2 fun y hy => ?_
  obtain ⟨j, hj, e⟩ := List.getElem_of_mem hy
  have := hno j hj
  unfold hz at this
  rw [List.getElem?_eq_getElem hj] at this
  have h2 : ¬ y = x := by rw [← e]; simpa using this
  simpa using h2
set_option maxHeartbeats 8000000 in
set_option maxRecDepth 100000 in
theorem l7Value_ok (w : World) (v : Int) (oo : Option Addr) (oc : Nat) (order : List Int) (hO : Ints w oo order) (hl : order.length ≤ 1048576) (hv : -9223372036854775808 ≤ v ∧ v ≤ 9223372036854775807) :
    Calls Tryz.prog 38 #[.int .i64 v, .slice oo order.length oc] w fun e w' => e = .returned (.string (strOfNums (valL v order))) ∧ Kept w w' := by
  have hNm := fun (u : World) => spec_Num_ok v u
  have hKd := fun (u : World) => spec_Kind_ok v u
  by_cases k0 : v % 8 = 0
  · have HV : Hid (valL v order = [32, 117, 110, 100, 101, 102]) := by simp [Hid, valL, k0]
    rw [k0] at hKd
    clear k0 hO
    go_enter Tryz.func38, Tryz.ntmps38
    go_wp2_with (go_at_call 64; refine (hKd _).mono ?_; rintro e wx ⟨rfl, rfl⟩)
    go_ret
    exact ⟨by rw [HV.out]; rfl, Below.refl _ _⟩
  · by_cases k1 : v % 8 = 1
    · have HV : Hid (valL v order = [32, 110, 117, 108, 108]) := by simp [Hid, valL, k1]
      rw [k1] at hKd
      clear k0 k1 hO
      go_enter Tryz.func38, Tryz.ntmps38
      go_wp2_with (go_at_call 64; refine (hKd _).mono ?_; rintro e wx ⟨rfl, rfl⟩)
      go_ret
      exact ⟨by rw [HV.out]; rfl, Below.refl _ _⟩
    · by_cases k2 : v % 8 = 2
      · rw [k2] at hKd
        by_cases h1 : v / 8 = 1
        · have HV : Hid (valL v order = [32, 116, 114, 117, 101]) := by simp [Hid, valL, k2, h1]
          rw [h1] at hNm
          clear k0 k1 k2 h1 hO
          go_enter Tryz.func38, Tryz.ntmps38
          go_wp2_with (first | (go_at_call 64; refine (hKd _).mono ?_; rintro e wx ⟨rfl, rfl⟩) | (go_at_call 65; refine (hNm _).mono ?_; rintro e wx ⟨rfl, rfl⟩))
          go_ret
          exact ⟨by rw [HV.out]; rfl, Below.refl _ _⟩
        · have HV : Hid (valL v order = [32, 102, 97, 108, 115, 101]) := by simp [Hid, valL, k2, h1]
          have hd : (v / 8 == 1) = false := by simpa using h1
          clear k0 k1 k2 h1 hO
          go_enter Tryz.func38, Tryz.ntmps38
          go_wp2_with (first | (go_at_call 64; refine (hKd _).mono ?_; rintro e wx ⟨rfl, rfl⟩) | (go_at_call 65; refine (hNm _).mono ?_; rintro e wx ⟨rfl, rfl⟩))
          go_ret
          exact ⟨by rw [HV.out]; rfl, Below.refl _ _⟩
      · by_cases k3 : v % 8 = 3
        · have HV : Hid (valL v order = [32] ++ digI (v / 8)) := by simp [Hid, valL, k3]
          rw [k3] at hKd
          have hln := digI_len (n := v / 8) (by omega)
          have hsz : ¬ 9223372036854775807 < (ByteArray.mk #[32]).size + (strOfNums (digI (v / 8))).size := by rw [strOfNums_size]; show ¬ _ < 1 + _; omega
          have HSB : Hid (ByteArray.mk #[32] ++ strOfNums (digI (v / 8)) = strOfNums ([32] ++ digI (v / 8))) := strs_app [32] _
          have hDg := fun (u : World) => l7Digits_ok u (v / 8) (by omega)
          clear k0 k1 k2 k3 hO
          go_enter Tryz.func38, Tryz.ntmps38
          go_wp2_with (first | (go_at_call 64; refine (hKd _).mono ?_; rintro e wx ⟨rfl, rfl⟩) | (go_at_call 65; refine (hNm _).mono ?_; rintro e wx ⟨rfl, rfl⟩) | (go_at_call 66; refine (hDg _).mono ?_; rintro e w1 ⟨rfl, hk1⟩))
          go_ret
          refine ⟨?_, hk1⟩
          rw [HV.out, ← HSB.out]
          rfl
        · have HV : Hid (valL v order = numL order (v / 8)) := by simp [Hid, valL, k0, k1, k2, k3]
          have d0 : (v % 8 == 0) = false := by simpa using k0
          have d1 : (v % 8 == 1) = false := by simpa using k1
          have d2 : (v % 8 == 2) = false := by simpa using k2
          have d3 : (v % 8 == 3) = false := by simpa using k3
          obtain ⟨x, hx⟩ : ∃ x, v / 8 = x := ⟨_, rfl⟩
          rw [hx] at HV hNm
          have HO : Hid _ := hO
          clear k0 k1 k2 k3 hO hx
          go_enter Tryz.func38, Tryz.ntmps38
          go_wp2_with (first | (go_at_call 64; refine (hKd _).mono ?_; rintro e wx ⟨rfl, rfl⟩))
          go_loopw [5] (fun i wr => ∃ k : Nat, i = .int .i64 k ∧ k ≤ order.length ∧ (∀ j, j < k → hz order j ≠ x) ∧ Kept w wr) (fun i _ => order.length - (intOf i).toNat)
          case atStart => exact ⟨0, rfl, Nat.zero_le _, fun j hj => by omega, Below.refl _ _⟩
          case round =>
            obtain ⟨k, rfl, hk, hno, hK⟩ := hrel
            have HNo : Hid _ := hno
            have HK : Hid _ := hK
            clear hno
            by_cases hlt : k < order.length
            · obtain ⟨b, o, rfl, hc⟩ := Ints.at (Ints.kept HO.out hK) hlt
              have c1 := hc k hlt
              have lb : b < wr.heap.size := World.block_lt_of_cell? _ _ c1
              have q1 : (k : Int) < (order.length : Int) := by omega
              have q0 : (0 : Int) ≤ (k : Int) := by omega
              have kd7 : ∀ u, Kept wr.drew u → Kept wr u := fun u hu => Kept.trans (Below.refl _ wr).drew hu
              have y1 : ∀ u, Kept wr.drew u → u.cell? ⟨b, o + k, none⟩ = some (.int .i64 (hz order k)) := fun u hu => ((kd7 u hu).cell (p := ⟨b, o + k, none⟩) lb).trans c1
              have C1 : Hid (∀ u, Kept wr.drew u → Calls Tryz.prog 65 #[.int .i64 v] u fun e w' => e = .returned (.int .i64 x) ∧ Kept u w') := fun u _ => calls_kept (hNm u)
              clear hc hK c1
              by_cases he : hz order k = x
              · have HN : Hid (numL order x = [32, 64] ++ digI (k : Nat)) := by rw [Hid, numL, findIdx_at HNo.out hlt he]
                have hq : (hz order k == x) = true := by simpa using he
                have hln := digI_len (n := (k : Int)) (by omega)
                have hsz : ¬ 9223372036854775807 < (ByteArray.mk #[32, 64]).size + (strOfNums (digI (k : Int))).size := by rw [strOfNums_size]; show ¬ _ < 2 + _; omega
                have HSB : Hid (ByteArray.mk #[32, 64] ++ strOfNums (digI (k : Int)) = strOfNums ([32, 64] ++ digI (k : Int))) := strs_app [32, 64] _
                have hDg := fun (u : World) => l7Digits_ok u (k : Int) (by omega)
                clear he
                go_wp2_with fail
                refine wp_region_seqL (by kernel_rfl) (by kernel_rfl) ?_
                repeat (first
                  | (refine SeqL.skip (by rfl) ?_; simp only [Act.put, List.setIfInBounds_toArray, List.set_cons_zero, List.set_cons_succ])
                  | (refine SeqL.pure ?_ (by rfl) ?_ ?_; rotate_left; (focus (intro u hu; have y1' := y1 u hu; go_simp; first | done | exact rfl)); simp only [Act.put, List.setIfInBounds_toArray, List.set_cons_zero, List.set_cons_succ])
                  | (refine SeqL.call _ _ _ (by rfl) ?_ C1.out ?_; (focus (intro u; go_simp; done)); simp only [Act.put, List.setIfInBounds_toArray, List.set_cons_zero, List.set_cons_succ]))
                refine SeqL.nil ?_
                intro w5 hu5
                have K5 := Kept.trans HK.out (kd7 w5 hu5)
                clear y1 C1 kd7
                go_wp2_with (go_at_call 66; refine (hDg _).mono ?_; rintro e w6 ⟨rfl, hk6⟩)
                go_ret
                refine ⟨?_, K5.trans hk6⟩
                rw [HV.out, HN.out, ← HSB.out]
                rfl
              · have hq : (hz order k == x) = false := by simpa using he
                have HE : Hid _ := he
                clear he
                go_wp2_with fail
                refine wp_region_seqL (by kernel_rfl) (by kernel_rfl) ?_
                repeat (first
                  | (refine SeqL.skip (by rfl) ?_; simp only [Act.put, List.setIfInBounds_toArray, List.set_cons_zero, List.set_cons_succ])
                  | (refine SeqL.pure ?_ (by rfl) ?_ ?_; rotate_left; (focus (intro u hu; have y1' := y1 u hu; go_simp; first | done | exact rfl)); simp only [Act.put, List.setIfInBounds_toArray, List.set_cons_zero, List.set_cons_succ])
                  | (refine SeqL.call _ _ _ (by rfl) ?_ C1.out ?_; (focus (intro u; go_simp; done)); simp only [Act.put, List.setIfInBounds_toArray, List.set_cons_zero, List.set_cons_succ]))
                refine SeqL.nil ?_
                intro w5 hu5
                have K5 := Kept.trans HK.out (kd7 w5 hu5)
                clear y1 C1 kd7
                go_wp2_with fail
                go_roundw
                case rel =>
                  refine ⟨k + 1, by go_num, by omega, fun j hj => ?_, K5⟩
                  rcases Nat.lt_or_ge j k with h | h
                  · exact HNo.out j h
                  · have : j = k := by omega
                    subst this
                    exact HE.out
                case measure => simp [intOf]; omega
            · obtain rfl : k = order.length := by omega
              have HN : Hid (numL order x = [32, 64]) := by rw [Hid, numL, findIdx_none HNo.out]
              clear hK
              go_wp2_with fail
              go_ret
              exact ⟨by rw [HV.out, HN.out]; rfl, HK.out⟩
end Go.Proofs.YtgnpllpinfhccaaGreatDoor
