/-
  The contracts of chapter 13's models l13Exprs and l13Blocks (genOk.py).
-/
import Derived.Test.YtefdlnomkojckaaGreatDoorOkP
import Derived.Test.YtefdlnomkojckaaGreatDoorSlabS
namespace Go.Proofs.YtefdlnomkojckaaGreatDoor
open Go.RowKit
set_option linter.unusedSimpArgs false

theorem l1In_b (a b c : Int) (w : World) : Calls Tryz.prog 28 #[.int .i64 a, .int .i64 b, .int .i64 c] w fun e w' => e = .returned (.bool (decide (b ≤ a ∧ a ≤ c))) ∧ w = w' := by
  by_cases h : b ≤ a ∧ a ≤ c
  · rw [decide_eq_true h]; exact l1In_yes a b c w h.1 h.2
  · rw [decide_eq_false h]; exact l1In_no a b c w (by omega)
/-- What l13Ok answers of trees of at most m nodes. -/
def OkCd (m : Nat) : Prop := ∀ t : Nd, t.size ≤ m → t.bulk ≤ 1048576 → ∀ (w : World) (base : Nat) (v : Value), NdV w base t v → Calls Tryz.prog 15 #[v] w fun e w' => e = .returned (.bool (okT t)) ∧ Kept w w'
set_option maxHeartbeats 8000000 in
set_option maxRecDepth 100000 in
theorem l13Exprs_ok (m : Nat) (H : OkCd m) (t : Nd) (ht : t.size ≤ m + 1) (hb : t.bulk ≤ 1048576) (q : Nat) (hq : q ≤ 1048576) (w : World) (base : Nat) (v : Value) (hv : NdV w base t v) :
    Calls Tryz.prog 38 #[v, .int .i64 (q : Nat)] w fun e w' => e = .returned (.bool (exR q t.kids)) ∧ Kept w w' := by
  cases t with
  | mk op s n ks =>
  rw [NdV] at hv
  obtain ⟨ao, cap, rfl, hml, hks⟩ := hv
  simp only [Nd.size, Nd.bulk] at ht hb
  have b0 := Cells.new w 29 #[.int .i64 op, .string s, .int .i64 n, .slice ao ks.length cap]
  have k0 : Kept w (w.alloc (.cells #[.int .i64 op, .string s, .int .i64 n, .slice ao ks.length cap] 29)) := Kept.alloc (Below.refl _ _) _
  have HKS : Hid (ks = [] ∨ ∃ b off, ao = some ⟨b, off, none⟩ ∧ base ≤ b ∧ NdsV w base b off ks) := hks
  have HIH : Hid (OkCd m) := H
  have hll := len_sizes ks
  have hlb : ks.length ≤ 1048576 := by omega
  clear hks H
  show Calls _ _ _ _ fun e w' => e = .returned (.bool (exR q ks)) ∧ Kept w w'
  go_enter Tryz.func38, Tryz.ntmps38
  go_wp2_with fail
  go_loopw [5] (fun iv wr => ∃ (k : Nat), iv = .int .i64 k ∧ k ≤ ks.length ∧ k ≤ q ∧ Hid ((ks.take k).all (stOk 3) = true) ∧ Hid (Kept (w.alloc (.cells #[.int .i64 op, .string s, .int .i64 n, .slice ao ks.length cap] 29)) wr)) (fun i _ => ks.length - (intOf i).toNat)
  case atStart => exact ⟨0, rfl, Nat.zero_le _, Nat.zero_le _, by simp [Hid], Below.refl _ _⟩
  case round =>
    obtain ⟨k, rfl, hk, hkq, hP, hK⟩ := hrel
    have c3 := (b0.kept hK.out).cell 3
    by_cases hlq : k < q
    · have r1 : (k : Int) < (q : Int) := by omega
      by_cases hlt : k < ks.length
      · have r2 : (k : Int) < (ks.length : Int) := by omega
        obtain ⟨x, hx⟩ : ∃ x, ks[k]? = some x := ⟨ks[k], List.getElem?_eq_getElem hlt⟩
        have hxs := size_mem hx
        have hxb := bulk_mem hx
        obtain ⟨b, off, a2, c2, rfl, g0, g1, g2, g3, hv⟩ := kid_at HKS.out (k0.trans hK.out) hx
        have hC := HIH.out x (by omega) (by omega)
        have hC := hC wr base _ hv
        have HX : Hid _ := hx
        have so := @st_op x.op
        obtain ⟨xo, hxo⟩ : ∃ o, x.op = o := ⟨_, rfl⟩
        obtain ⟨xt, hxt⟩ : ∃ o, okT x = o := ⟨_, rfl⟩
        have HPX : Hid (∀ a, stOk a x = (decide (st xo = a) && xt)) := fun a => by rw [stOk, hxo, hxt]
        rw [hxo] at g0 so hC
        rw [hxt] at hC
        clear hx hxs hxb hv hxo hxt
        by_cases h3 : st xo = 3
        · have HP3 : Hid (stOk 3 x = xt) := by rw [Hid, HPX.out, h3]; simp
          have s3 := so.2.2.1.1 h3
          have hs3 : (decide (10 ≤ xo ∧ xo ≤ 25) = true) ∨ (decide (10 ≤ xo ∧ xo ≤ 25) = false ∧ (xo != 27) = false) := by
            rcases s3 with h | h
            · left; simpa using h
            · right; subst h; decide
          have hI := l1In_b xo 10 25 wr
          obtain ⟨di, hdi⟩ : ∃ d, decide (10 ≤ xo ∧ xo ≤ 25) = d := ⟨_, rfl⟩
          rw [hdi] at hs3 hI
          clear h3 s3 so hdi
          cases xt
          · have HF : Hid (exR q ks = false) := by rw [Hid, exR, all_bad hlq HX.out HP3.out]; simp
            rcases hs3 with rfl | ⟨rfl, hs3⟩
            · go_wp2_with (first | (go_at_call 28; refine hI.mono ?_; rintro e wx ⟨rfl, rfl⟩) | (go_at_call 15; refine hC.mono ?_; rintro e w1 ⟨rfl, hk1⟩))
              go_ret
              exact ⟨by rw [HF.out]; rfl, (k0.trans hK.out).trans hk1⟩
            · go_wp2_with (first | (go_at_call 28; refine hI.mono ?_; rintro e wx ⟨rfl, rfl⟩) | (go_at_call 15; refine hC.mono ?_; rintro e w1 ⟨rfl, hk1⟩))
              go_ret
              exact ⟨by rw [HF.out]; rfl, (k0.trans hK.out).trans hk1⟩
          · have HA : Hid ((ks.take (k + 1)).all (stOk 3) = true) := all_step hP.out HX.out HP3.out
            rcases hs3 with rfl | ⟨rfl, hs3⟩
            · go_wp2_with (first | (go_at_call 28; refine hI.mono ?_; rintro e wx ⟨rfl, rfl⟩) | (go_at_call 15; refine hC.mono ?_; rintro e w1 ⟨rfl, hk1⟩))
              exact ⟨⟨k + 1, by go_num, by omega, by omega, HA.out, hK.out.trans hk1⟩, by simp [intOf]; omega⟩
            · go_wp2_with (first | (go_at_call 28; refine hI.mono ?_; rintro e wx ⟨rfl, rfl⟩) | (go_at_call 15; refine hC.mono ?_; rintro e w1 ⟨rfl, hk1⟩))
              exact ⟨⟨k + 1, by go_num, by omega, by omega, HA.out, hK.out.trans hk1⟩, by simp [intOf]; omega⟩
        · have HP3 : Hid (stOk 3 x = false) := by rw [Hid, HPX.out]; simp [h3]
          have HF : Hid (exR q ks = false) := by rw [Hid, exR, all_bad hlq HX.out HP3.out]; simp
          have s3 : ¬ ((10 ≤ xo ∧ xo ≤ 25) ∨ xo = 27) := fun h => h3 (so.2.2.1.2 h)
          have hI := l1In_b xo 10 25 wr
          rw [show decide (10 ≤ xo ∧ xo ≤ 25) = false by simp; omega] at hI
          have r5 : (xo != 27) = true := by simp; omega
          clear h3 s3 so
          go_wp2_with (first | (go_at_call 28; refine hI.mono ?_; rintro e wx ⟨rfl, rfl⟩))
          go_ret
          exact ⟨by rw [HF.out]; rfl, k0.trans hK.out⟩
      · have r2 : ¬ (k : Int) < (ks.length : Int) := by omega
        have r3 : decide (q ≤ ks.length) = false := by simp; omega
        have HF : Hid (exR q ks = false) := by rw [Hid, exR, decide_eq_false (by omega)]; simp
        go_wp2_with fail
        go_ret
        exact ⟨by rw [HF.out]; rfl, k0.trans hK.out⟩
    · have r1 : ¬ (k : Int) < (q : Int) := by omega
      have r3 : decide (q ≤ ks.length) = true := by simp; omega
      have HF : Hid (exR q ks = true) := by rw [Hid, exR, show q = k by omega, hP.out, decide_eq_true (by omega)]; rfl
      go_wp2_with fail
      go_ret
      exact ⟨by rw [HF.out]; rfl, k0.trans hK.out⟩
set_option maxHeartbeats 8000000 in
set_option maxRecDepth 100000 in
theorem l13Blocks_ok (m : Nat) (H : OkCd m) (t : Nd) (ht : t.size ≤ m + 1) (hb : t.bulk ≤ 1048576) (q : Nat) (hq : q ≤ t.kids.length) (w : World) (base : Nat) (v : Value) (hv : NdV w base t v) :
    Calls Tryz.prog 39 #[v, .int .i64 (q : Nat)] w fun e w' => e = .returned (.bool ((t.kids.drop q).all (stOk 1))) ∧ Kept w w' := by
  cases t with
  | mk op s n ks =>
  rw [NdV] at hv
  obtain ⟨ao, cap, rfl, hml, hks⟩ := hv
  simp only [Nd.size, Nd.bulk] at ht hb
  have b0 := Cells.new w 29 #[.int .i64 op, .string s, .int .i64 n, .slice ao ks.length cap]
  have k0 : Kept w (w.alloc (.cells #[.int .i64 op, .string s, .int .i64 n, .slice ao ks.length cap] 29)) := Kept.alloc (Below.refl _ _) _
  have HKS : Hid (ks = [] ∨ ∃ b off, ao = some ⟨b, off, none⟩ ∧ base ≤ b ∧ NdsV w base b off ks) := hks
  have HIH : Hid (OkCd m) := H
  have hll := len_sizes ks
  have hlb : ks.length ≤ 1048576 := by omega
  clear hks H
  show Calls _ _ _ _ fun e w' => e = .returned (.bool ((ks.drop q).all (stOk 1))) ∧ Kept w w'
  have hq : q ≤ ks.length := hq
  go_enter Tryz.func39, Tryz.ntmps39
  go_wp2_with fail
  go_loopw [5] (fun iv wr => ∃ (k : Nat), iv = .int .i64 k ∧ q ≤ k ∧ k ≤ ks.length ∧ Hid (((ks.drop q).take (k - q)).all (stOk 1) = true) ∧ Hid (Kept (w.alloc (.cells #[.int .i64 op, .string s, .int .i64 n, .slice ao ks.length cap] 29)) wr)) (fun i _ => ks.length - (intOf i).toNat)
  case atStart => exact ⟨q, rfl, Nat.le_refl _, hq, by simp [Hid], Below.refl _ _⟩
  case round =>
    obtain ⟨k, rfl, hqk, hk, hP, hK⟩ := hrel
    have c3 := (b0.kept hK.out).cell 3
    by_cases hlt : k < ks.length
    · have r2 : (k : Int) < (ks.length : Int) := by omega
      obtain ⟨x, hx⟩ : ∃ x, ks[k]? = some x := ⟨ks[k], List.getElem?_eq_getElem hlt⟩
      have hxs := size_mem hx
      have hxb := bulk_mem hx
      obtain ⟨b, off, a2, c2, rfl, g0, g1, g2, g3, hv⟩ := kid_at HKS.out (k0.trans hK.out) hx
      have hC := HIH.out x (by omega) (by omega)
      have hC := hC wr base _ hv
      have HX : Hid _ := hx
      have so := @st_op x.op
      obtain ⟨xo, hxo⟩ : ∃ o, x.op = o := ⟨_, rfl⟩
      obtain ⟨xt, hxt⟩ : ∃ o, okT x = o := ⟨_, rfl⟩
      have HPX : Hid (∀ a, stOk a x = (decide (st xo = a) && xt)) := fun a => by rw [stOk, hxo, hxt]
      rw [hxo] at g0 so hC
      rw [hxt] at hC
      clear hx hxs hxb hv hxo hxt
      by_cases h1 : xo = 1
      · subst h1
        have HP1 : Hid (stOk 1 x = xt) := by rw [Hid, HPX.out, so.1.2 rfl]; simp
        clear so
        cases xt
        · have HF : Hid ((ks.drop q).all (stOk 1) = false) := drop_bad hqk HX.out HP1.out
          go_wp2_with (first | (go_at_call 15; refine hC.mono ?_; rintro e w1 ⟨rfl, hk1⟩))
          go_ret
          exact ⟨by rw [HF.out]; rfl, (k0.trans hK.out).trans hk1⟩
        · have HA : Hid (((ks.drop q).take (k + 1 - q)).all (stOk 1) = true) := by
            rw [Hid, show k + 1 - q = (k - q) + 1 by omega]
            exact all_step hP.out (by rw [List.getElem?_drop, show q + (k - q) = k by omega]; exact HX.out) HP1.out
          go_wp2_with (first | (go_at_call 15; refine hC.mono ?_; rintro e w1 ⟨rfl, hk1⟩))
          exact ⟨⟨k + 1, by go_num, by omega, by omega, HA.out, hK.out.trans hk1⟩, by simp [intOf]; omega⟩
      · have HP1 : Hid (stOk 1 x = false) := by rw [Hid, HPX.out]; simp [so.1, h1]
        have HF : Hid ((ks.drop q).all (stOk 1) = false) := drop_bad hqk HX.out HP1.out
        have r5 : (xo != 1) = true := by simpa using h1
        clear h1 so
        go_wp2_with fail
        go_ret
        exact ⟨by rw [HF.out]; rfl, k0.trans hK.out⟩
    · have r2 : ¬ (k : Int) < (ks.length : Int) := by omega
      have HF : Hid ((ks.drop q).all (stOk 1) = true) := by
        have h := hP.out
        rw [List.take_of_length_le (by simp; omega)] at h
        exact h
      go_wp2_with fail
      go_ret
      exact ⟨by rw [HF.out]; rfl, k0.trans hK.out⟩
end Go.Proofs.YtefdlnomkojckaaGreatDoor
