/-
  The contracts of chapter 13's models l13Exprs and l13Blocks (genOk.py).
  The contract of chapter 13's model l13Kids (genOk.py).
  The contracts of chapter 13's models l13Ok and NodeOk (genOk.py).
-/
import Derived.Test.YtlinbkgeahgkjaaGreatDoorZOkP
import Derived.Test.YtlinbkgeahgkjaaGreatDoorSlabS
import Derived.Test.YtlinbkgeahgkjaaGreatDoorNodA
namespace Go.Proofs.YtlinbkgeahgkjaaGreatDoor
open Go.RowKit
set_option linter.unusedSimpArgs false

theorem l1In_b (a b c : Int) (w : World) : Calls Tryz.prog 37 #[.int .i64 a, .int .i64 b, .int .i64 c] w fun e w' => e = .returned (.bool (decide (b ≤ a ∧ a ≤ c))) ∧ w = w' := by
  by_cases h : b ≤ a ∧ a ≤ c
  · rw [decide_eq_true h]; exact l1In_yes a b c w h.1 h.2
  · rw [decide_eq_false h]; exact l1In_no a b c w (by omega)
/-- What l13Ok answers of trees of at most m nodes. -/
def OkCd (m : Nat) : Prop := ∀ t : Nd, t.size ≤ m → t.bulk ≤ 1048576 → ∀ (w : World) (base : Nat) (v : Value), NdV w base t v → Calls Tryz.prog 24 #[v] w fun e w' => e = .returned (.bool (okT t)) ∧ Kept w w'
set_option maxHeartbeats 8000000 in
set_option maxRecDepth 100000 in
theorem l13Exprs_ok (m : Nat) (H : OkCd m) (t : Nd) (ht : t.size ≤ m + 1) (hb : t.bulk ≤ 1048576) (q : Nat) (hq : q ≤ 1048576) (w : World) (base : Nat) (v : Value) (hv : NdV w base t v) :
    Calls Tryz.prog 46 #[v, .int .i64 (q : Nat)] w fun e w' => e = .returned (.bool (exR q t.kids)) ∧ Kept w w' := by
  cases t with
  | mk op s n ks =>
  rw [NdV] at hv
  obtain ⟨ao, cap, rfl, hml, hks⟩ := hv
  simp only [Nd.size, Nd.bulk] at ht hb
  have b0 := Cells.new w 29 #[.int .i64 op, .string s, .int .i64 n, .slice ao ks.length cap]
  have k0 : Kept w (w.alloc (.cells #[.int .i64 op, .string s, .int .i64 n, .slice ao ks.length cap] 29)) := Kept.alloc (Below.refl _ _) _
  have HKS : Hid (ks = [] ∨ ∃ b off, ao = some ⟨b, off, none⟩ ∧ base ≤ b ∧ NdsV w base b off ks) := hks
  have HIH : Hid (OkCd m) := H
  have hll := len_sizes ks
  have hlb : ks.length ≤ 1048576 := by omega
  clear hks H
  show Calls _ _ _ _ fun e w' => e = .returned (.bool (exR q ks)) ∧ Kept w w'
  go_enter Tryz.func46, Tryz.ntmps46
  go_wp2_with fail
  go_loopw [5] (fun iv wr => ∃ (k : Nat), iv = .int .i64 k ∧ k ≤ ks.length ∧ k ≤ q ∧ Hid ((ks.take k).all (stOk 3) = true) ∧ Hid (Kept (w.alloc (.cells #[.int .i64 op, .string s, .int .i64 n, .slice ao ks.length cap] 29)) wr)) (fun i _ => ks.length - (intOf i).toNat)
  case atStart => exact ⟨0, rfl, Nat.zero_le _, Nat.zero_le _, by simp [Hid], Below.refl _ _⟩
  case round =>
    obtain ⟨k, rfl, hk, hkq, hP, hK⟩ := hrel
    have c3 := (b0.kept hK.out).cell 3
    by_cases hlq : k < q
    · have r1 : (k : Int) < (q : Int) := by omega
      by_cases hlt : k < ks.length
      · have r2 : (k : Int) < (ks.length : Int) := by omega
        obtain ⟨x, hx⟩ : ∃ x, ks[k]? = some x := ⟨ks[k], List.getElem?_eq_getElem hlt⟩
        have hxs := size_mem hx
        have hxb := bulk_mem hx
        obtain ⟨b, off, a2, c2, rfl, g0, g1, g2, g3, hv⟩ := kid_at HKS.out (k0.trans hK.out) hx
        have hC := HIH.out x (by omega) (by omega)
        have hC := hC wr base _ hv
        have HX : Hid _ := hx
        have so := @st_op x.op
        obtain ⟨xo, hxo⟩ : ∃ o, x.op = o := ⟨_, rfl⟩
        obtain ⟨xt, hxt⟩ : ∃ o, okT x = o := ⟨_, rfl⟩
        have HPX : Hid (∀ a, stOk a x = (decide (st xo = a) && xt)) := fun a => by rw [stOk, hxo, hxt]
        rw [hxo] at g0 so hC
        rw [hxt] at hC
        clear hx hxs hxb hv hxo hxt
        by_cases h3 : st xo = 3
        · have HP3 : Hid (stOk 3 x = xt) := by rw [Hid, HPX.out, h3]; simp
          have s3 := so.2.2.1.1 h3
          have hs3 : (decide (10 ≤ xo ∧ xo ≤ 25) = true) ∨ (decide (10 ≤ xo ∧ xo ≤ 25) = false ∧ (xo != 27) = false) := by
            rcases s3 with h | h
            · left; simpa using h
            · right; subst h; decide
          have hI := l1In_b xo 10 25 wr
          obtain ⟨di, hdi⟩ : ∃ d, decide (10 ≤ xo ∧ xo ≤ 25) = d := ⟨_, rfl⟩
          rw [hdi] at hs3 hI
          clear h3 s3 so hdi
          cases xt
          · have HF : Hid (exR q ks = false) := by rw [Hid, exR, all_bad hlq HX.out HP3.out]; simp
            rcases hs3 with rfl | ⟨rfl, hs3⟩
            · go_wp2_with (first | (go_at_call 37; refine hI.mono ?_; rintro e wx ⟨rfl, rfl⟩) | (go_at_call 24; refine hC.mono ?_; rintro e w1 ⟨rfl, hk1⟩))
              go_ret
              exact ⟨by rw [HF.out]; rfl, (k0.trans hK.out).trans hk1⟩
            · go_wp2_with (first | (go_at_call 37; refine hI.mono ?_; rintro e wx ⟨rfl, rfl⟩) | (go_at_call 24; refine hC.mono ?_; rintro e w1 ⟨rfl, hk1⟩))
              go_ret
              exact ⟨by rw [HF.out]; rfl, (k0.trans hK.out).trans hk1⟩
          · have HA : Hid ((ks.take (k + 1)).all (stOk 3) = true) := all_step hP.out HX.out HP3.out
            rcases hs3 with rfl | ⟨rfl, hs3⟩
            · go_wp2_with (first | (go_at_call 37; refine hI.mono ?_; rintro e wx ⟨rfl, rfl⟩) | (go_at_call 24; refine hC.mono ?_; rintro e w1 ⟨rfl, hk1⟩))
              exact ⟨⟨k + 1, by go_num, by omega, by omega, HA.out, hK.out.trans hk1⟩, by simp [intOf]; omega⟩
            · go_wp2_with (first | (go_at_call 37; refine hI.mono ?_; rintro e wx ⟨rfl, rfl⟩) | (go_at_call 24; refine hC.mono ?_; rintro e w1 ⟨rfl, hk1⟩))
              exact ⟨⟨k + 1, by go_num, by omega, by omega, HA.out, hK.out.trans hk1⟩, by simp [intOf]; omega⟩
        · have HP3 : Hid (stOk 3 x = false) := by rw [Hid, HPX.out]; simp [h3]
          have HF : Hid (exR q ks = false) := by rw [Hid, exR, all_bad hlq HX.out HP3.out]; simp
          have s3 : ¬ ((10 ≤ xo ∧ xo ≤ 25) ∨ xo = 27) := fun h => h3 (so.2.2.1.2 h)
          have hI := l1In_b xo 10 25 wr
          rw [show decide (10 ≤ xo ∧ xo ≤ 25) = false by simp; omega] at hI
          have r5 : (xo != 27) = true := by simp; omega
          clear h3 s3 so
          go_wp2_with (first | (go_at_call 37; refine hI.mono ?_; rintro e wx ⟨rfl, rfl⟩))
          go_ret
          exact ⟨by rw [HF.out]; rfl, k0.trans hK.out⟩
      · have r2 : ¬ (k : Int) < (ks.length : Int) := by omega
        have r3 : decide (q ≤ ks.length) = false := by simp; omega
        have HF : Hid (exR q ks = false) := by rw [Hid, exR, decide_eq_false (by omega)]; simp
        go_wp2_with fail
        go_ret
        exact ⟨by rw [HF.out]; rfl, k0.trans hK.out⟩
    · have r1 : ¬ (k : Int) < (q : Int) := by omega
      have r3 : decide (q ≤ ks.length) = true := by simp; omega
      have HF : Hid (exR q ks = true) := by rw [Hid, exR, show q = k by omega, hP.out, decide_eq_true (by omega)]; rfl
      go_wp2_with fail
      go_ret
      exact ⟨by rw [HF.out]; rfl, k0.trans hK.out⟩
set_option maxHeartbeats 8000000 in
set_option maxRecDepth 100000 in
theorem l13Blocks_ok (m : Nat) (H : OkCd m) (t : Nd) (ht : t.size ≤ m + 1) (hb : t.bulk ≤ 1048576) (q : Nat) (hq : q ≤ t.kids.length) (w : World) (base : Nat) (v : Value) (hv : NdV w base t v) :
    Calls Tryz.prog 47 #[v, .int .i64 (q : Nat)] w fun e w' => e = .returned (.bool ((t.kids.drop q).all (stOk 1))) ∧ Kept w w' := by
  cases t with
  | mk op s n ks =>
  rw [NdV] at hv
  obtain ⟨ao, cap, rfl, hml, hks⟩ := hv
  simp only [Nd.size, Nd.bulk] at ht hb
  have b0 := Cells.new w 29 #[.int .i64 op, .string s, .int .i64 n, .slice ao ks.length cap]
  have k0 : Kept w (w.alloc (.cells #[.int .i64 op, .string s, .int .i64 n, .slice ao ks.length cap] 29)) := Kept.alloc (Below.refl _ _) _
  have HKS : Hid (ks = [] ∨ ∃ b off, ao = some ⟨b, off, none⟩ ∧ base ≤ b ∧ NdsV w base b off ks) := hks
  have HIH : Hid (OkCd m) := H
  have hll := len_sizes ks
  have hlb : ks.length ≤ 1048576 := by omega
  clear hks H
  show Calls _ _ _ _ fun e w' => e = .returned (.bool ((ks.drop q).all (stOk 1))) ∧ Kept w w'
  have hq : q ≤ ks.length := hq
  go_enter Tryz.func47, Tryz.ntmps47
  go_wp2_with fail
  go_loopw [5] (fun iv wr => ∃ (k : Nat), iv = .int .i64 k ∧ q ≤ k ∧ k ≤ ks.length ∧ Hid (((ks.drop q).take (k - q)).all (stOk 1) = true) ∧ Hid (Kept (w.alloc (.cells #[.int .i64 op, .string s, .int .i64 n, .slice ao ks.length cap] 29)) wr)) (fun i _ => ks.length - (intOf i).toNat)
  case atStart => exact ⟨q, rfl, Nat.le_refl _, hq, by simp [Hid], Below.refl _ _⟩
  case round =>
    obtain ⟨k, rfl, hqk, hk, hP, hK⟩ := hrel
    have c3 := (b0.kept hK.out).cell 3
    by_cases hlt : k < ks.length
    · have r2 : (k : Int) < (ks.length : Int) := by omega
      obtain ⟨x, hx⟩ : ∃ x, ks[k]? = some x := ⟨ks[k], List.getElem?_eq_getElem hlt⟩
      have hxs := size_mem hx
      have hxb := bulk_mem hx
      obtain ⟨b, off, a2, c2, rfl, g0, g1, g2, g3, hv⟩ := kid_at HKS.out (k0.trans hK.out) hx
      have hC := HIH.out x (by omega) (by omega)
      have hC := hC wr base _ hv
      have HX : Hid _ := hx
      have so := @st_op x.op
      obtain ⟨xo, hxo⟩ : ∃ o, x.op = o := ⟨_, rfl⟩
      obtain ⟨xt, hxt⟩ : ∃ o, okT x = o := ⟨_, rfl⟩
      have HPX : Hid (∀ a, stOk a x = (decide (st xo = a) && xt)) := fun a => by rw [stOk, hxo, hxt]
      rw [hxo] at g0 so hC
      rw [hxt] at hC
      clear hx hxs hxb hv hxo hxt
      by_cases h1 : xo = 1
      · subst h1
        have HP1 : Hid (stOk 1 x = xt) := by rw [Hid, HPX.out, so.1.2 rfl]; simp
        clear so
        cases xt
        · have HF : Hid ((ks.drop q).all (stOk 1) = false) := drop_bad hqk HX.out HP1.out
          go_wp2_with (first | (go_at_call 24; refine hC.mono ?_; rintro e w1 ⟨rfl, hk1⟩))
          go_ret
          exact ⟨by rw [HF.out]; rfl, (k0.trans hK.out).trans hk1⟩
        · have HA : Hid (((ks.drop q).take (k + 1 - q)).all (stOk 1) = true) := by
            rw [Hid, show k + 1 - q = (k - q) + 1 by omega]
            exact all_step hP.out (by rw [List.getElem?_drop, show q + (k - q) = k by omega]; exact HX.out) HP1.out
          go_wp2_with (first | (go_at_call 24; refine hC.mono ?_; rintro e w1 ⟨rfl, hk1⟩))
          exact ⟨⟨k + 1, by go_num, by omega, by omega, HA.out, hK.out.trans hk1⟩, by simp [intOf]; omega⟩
      · have HP1 : Hid (stOk 1 x = false) := by rw [Hid, HPX.out]; simp [so.1, h1]
        have HF : Hid ((ks.drop q).all (stOk 1) = false) := drop_bad hqk HX.out HP1.out
        have r5 : (xo != 1) = true := by simpa using h1
        clear h1 so
        go_wp2_with fail
        go_ret
        exact ⟨by rw [HF.out]; rfl, k0.trans hK.out⟩
    · have r2 : ¬ (k : Int) < (ks.length : Int) := by omega
      have HF : Hid ((ks.drop q).all (stOk 1) = true) := by
        have h := hP.out
        rw [List.take_of_length_le (by simp; omega)] at h
        exact h
      go_wp2_with fail
      go_ret
      exact ⟨by rw [HF.out]; rfl, k0.trans hK.out⟩
end Go.Proofs.YtlinbkgeahgkjaaGreatDoor
namespace Go.Proofs.YtlinbkgeahgkjaaGreatDoor
open Go.RowKit
set_option linter.unusedSimpArgs false

set_option maxHeartbeats 16000000 in
set_option maxRecDepth 100000 in
theorem kids_a (m : Nat) (H : OkCd m) (s : ByteArray) (n : Int) (ks : List Nd) (op : Int) (h : op = 2 ∨ op = 3 ∨ op = 7 ∨ op = 8 ∨ op = 9 ∨ op = 17 ∨ op = 24 ∨ op = 26) (ht : 1 + sizesN ks ≤ m + 1) (hb : s.size + (ks.length + bulksN ks) ≤ 1048576) (w : World) (base : Nat) (v : Value) (hv : NdV w base (.mk op s n ks) v) :
    Calls Tryz.prog 33 #[v] w fun e w' => e = .returned (.bool (kidsR op ks)) ∧ Kept w w' := by
  have hvN := hv
  rw [NdV] at hv
  obtain ⟨ao, cap, rfl, hml, hks⟩ := hv
  have b0 := Cells.new w 29 #[.int .i64 op, .string s, .int .i64 n, .slice ao ks.length cap]
  have k0 : Kept w (w.alloc (.cells #[.int .i64 op, .string s, .int .i64 n, .slice ao ks.length cap] 29)) := Kept.alloc (Below.refl _ _) _
  have hvB := hvN.kept k0
  have hll := len_sizes ks
  have hlb : ks.length ≤ 1048576 := by omega
  rw [kidsR_a h]
  by_cases hl : ks.length = 1
  · have hE := l13Exprs_ok m H (.mk op s n ks) (by simp only [Nd.size]; omega) (by simp only [Nd.bulk]; omega) 1 (by omega) _ base _ hvB
    simp only [Nd.kids] at hE
    obtain ⟨x, hx⟩ : ∃ x, exR 1 ks = x := ⟨_, rfl⟩
    rw [hx] at hE
    have HX : Hid ((decide (ks.length = 1) && exR 1 ks) = x) := by rw [Hid, hx, decide_eq_true hl]; rfl
    have q1 : ((ks.length : Nat) : Int) == 1 := by rw [hl]; rfl
    clear hx hks hvN hvB hl
    rcases h with rfl | rfl | rfl | rfl | rfl | rfl | rfl | rfl
    all_goals (
      go_enter Tryz.func33, Tryz.ntmps33
      go_wp2_with (go_at_call 46; refine hE.mono ?_; rintro e w1 ⟨rfl, hk1⟩; have y1 := b0.kept hk1; have c0 := y1.cell 0; have c1 := y1.cell 1; have c2 := y1.cell 2; have c3 := y1.cell 3)
      go_ret
      exact ⟨by rw [HX.out]; rfl, k0.trans hk1⟩)
  · have HX : Hid ((decide (ks.length = 1) && exR 1 ks) = false) := by rw [Hid, decide_eq_false hl]; rfl
    have q1 : (((ks.length : Nat) : Int) == 1) = false := by simp; omega
    clear hks hvN hvB hl
    rcases h with rfl | rfl | rfl | rfl | rfl | rfl | rfl | rfl
    all_goals (
      go_enter Tryz.func33, Tryz.ntmps33
      go_wp2_with fail
      go_ret
      exact ⟨by rw [HX.out]; rfl, k0⟩)
set_option maxHeartbeats 16000000 in
set_option maxRecDepth 100000 in
theorem kids_b (m : Nat) (H : OkCd m) (s : ByteArray) (n : Int) (ks : List Nd) (op : Int) (h : op = 4 ∨ op = 19 ∨ op = 20 ∨ op = 21 ∨ op = 22 ∨ op = 23) (ht : 1 + sizesN ks ≤ m + 1) (hb : s.size + (ks.length + bulksN ks) ≤ 1048576) (w : World) (base : Nat) (v : Value) (hv : NdV w base (.mk op s n ks) v) :
    Calls Tryz.prog 33 #[v] w fun e w' => e = .returned (.bool (kidsR op ks)) ∧ Kept w w' := by
  have hvN := hv
  rw [NdV] at hv
  obtain ⟨ao, cap, rfl, hml, hks⟩ := hv
  have b0 := Cells.new w 29 #[.int .i64 op, .string s, .int .i64 n, .slice ao ks.length cap]
  have k0 : Kept w (w.alloc (.cells #[.int .i64 op, .string s, .int .i64 n, .slice ao ks.length cap] 29)) := Kept.alloc (Below.refl _ _) _
  have hvB := hvN.kept k0
  have hll := len_sizes ks
  have hlb : ks.length ≤ 1048576 := by omega
  rw [kidsR_b h]
  by_cases hl : ks.length = 2
  · have hE := l13Exprs_ok m H (.mk op s n ks) (by simp only [Nd.size]; omega) (by simp only [Nd.bulk]; omega) 2 (by omega) _ base _ hvB
    simp only [Nd.kids] at hE
    obtain ⟨x, hx⟩ : ∃ x, exR 2 ks = x := ⟨_, rfl⟩
    rw [hx] at hE
    have HX : Hid ((decide (ks.length = 2) && exR 2 ks) = x) := by rw [Hid, hx, decide_eq_true hl]; rfl
    have q1 : ((ks.length : Nat) : Int) == 2 := by rw [hl]; rfl
    clear hx hks hvN hvB hl
    rcases h with rfl | rfl | rfl | rfl | rfl | rfl
    all_goals (
      go_enter Tryz.func33, Tryz.ntmps33
      go_wp2_with (go_at_call 46; refine hE.mono ?_; rintro e w1 ⟨rfl, hk1⟩; have y1 := b0.kept hk1; have c0 := y1.cell 0; have c1 := y1.cell 1; have c2 := y1.cell 2; have c3 := y1.cell 3)
      go_ret
      exact ⟨by rw [HX.out]; rfl, k0.trans hk1⟩)
  · have HX : Hid ((decide (ks.length = 2) && exR 2 ks) = false) := by rw [Hid, decide_eq_false hl]; rfl
    have q1 : (((ks.length : Nat) : Int) == 2) = false := by simp; omega
    clear hks hvN hvB hl
    rcases h with rfl | rfl | rfl | rfl | rfl | rfl
    all_goals (
      go_enter Tryz.func33, Tryz.ntmps33
      go_wp2_with fail
      go_ret
      exact ⟨by rw [HX.out]; rfl, k0⟩)
set_option maxHeartbeats 16000000 in
set_option maxRecDepth 100000 in
theorem kids_5 (m : Nat) (H : OkCd m) (s : ByteArray) (n : Int) (ks : List Nd) (ht : 1 + sizesN ks ≤ m + 1) (hb : s.size + (ks.length + bulksN ks) ≤ 1048576) (w : World) (base : Nat) (v : Value) (hv : NdV w base (.mk 5 s n ks) v) :
    Calls Tryz.prog 33 #[v] w fun e w' => e = .returned (.bool (kidsR 5 ks)) ∧ Kept w w' := by
  have hvN := hv
  rw [NdV] at hv
  obtain ⟨ao, cap, rfl, hml, hks⟩ := hv
  have b0 := Cells.new w 29 #[.int .i64 5, .string s, .int .i64 n, .slice ao ks.length cap]
  have k0 : Kept w (w.alloc (.cells #[.int .i64 5, .string s, .int .i64 n, .slice ao ks.length cap] 29)) := Kept.alloc (Below.refl _ _) _
  have hvB := hvN.kept k0
  have hll := len_sizes ks
  have hlb : ks.length ≤ 1048576 := by omega
  rw [kidsR_5]
  by_cases hl : 2 ≤ ks.length ∧ ks.length ≤ 3
  · have hE := l13Exprs_ok m H (.mk 5 s n ks) (by simp only [Nd.size]; omega) (by simp only [Nd.bulk]; omega) 1 (by omega) _ base _ hvB
    simp only [Nd.kids] at hE
    have hB := fun (u : World) (hu : Kept (w.alloc (.cells #[.int .i64 5, .string s, .int .i64 n, .slice ao ks.length cap] 29)) u) => l13Blocks_ok m H (.mk 5 s n ks) (by simp only [Nd.size]; omega) (by simp only [Nd.bulk]; omega) 1 (by simp only [Nd.kids]; omega) u base _ (hvB.kept hu)
    simp only [Nd.kids] at hB
    obtain ⟨x, hx⟩ : ∃ x, exR 1 ks = x := ⟨_, rfl⟩
    obtain ⟨y, hy⟩ : ∃ y, (ks.drop 1).all (stOk 1) = y := ⟨_, rfl⟩
    rw [hx] at hE
    rw [hy] at hB
    have HX : Hid ((decide (2 ≤ ks.length ∧ ks.length ≤ 3) && (exR 1 ks && (ks.drop 1).all (stOk 1))) = (x && y)) := by rw [Hid, hx, hy, decide_eq_true hl]; rfl
    have hI := l1In_yes (ks.length : Nat) 2 3 (w.alloc (.cells #[.int .i64 5, .string s, .int .i64 n, .slice ao ks.length cap] 29)) (by omega) (by omega)
    clear hx hy hks hvN hvB hl
    cases x
    · go_enter Tryz.func33, Tryz.ntmps33
      go_wp2_with (first | (go_at_call 37; refine hI.mono ?_; rintro e wx ⟨rfl, rfl⟩) | (go_at_call 46; refine hE.mono ?_; rintro e w1 ⟨rfl, hk1⟩; have y1 := b0.kept hk1; have c0 := y1.cell 0; have c1 := y1.cell 1; have c2 := y1.cell 2; have c3 := y1.cell 3))
      go_ret
      exact ⟨by rw [HX.out]; rfl, k0.trans hk1⟩
    · go_enter Tryz.func33, Tryz.ntmps33
      go_wp2_with (first | (go_at_call 37; refine hI.mono ?_; rintro e wx ⟨rfl, rfl⟩) | (have _tk := hk1; go_at_call 47; refine (hB w1 hk1).mono ?_; rintro e w2 ⟨rfl, hk2⟩) | (go_at_call 46; refine hE.mono ?_; rintro e w1 ⟨rfl, hk1⟩; have y1 := b0.kept hk1; have c0 := y1.cell 0; have c1 := y1.cell 1; have c2 := y1.cell 2; have c3 := y1.cell 3))
      go_ret
      exact ⟨by rw [HX.out]; rfl, k0.trans (hk1.trans hk2)⟩
  · have HX : Hid ((decide (2 ≤ ks.length ∧ ks.length ≤ 3) && (exR 1 ks && (ks.drop 1).all (stOk 1))) = false) := by rw [Hid, decide_eq_false hl]; rfl
    have hI := l1In_no (ks.length : Nat) 2 3 (w.alloc (.cells #[.int .i64 5, .string s, .int .i64 n, .slice ao ks.length cap] 29)) (by omega)
    clear hks hvN hvB hl
    go_enter Tryz.func33, Tryz.ntmps33
    go_wp2_with (first | (go_at_call 37; refine hI.mono ?_; rintro e wx ⟨rfl, rfl⟩))
    go_ret
    exact ⟨by rw [HX.out]; rfl, k0⟩
set_option maxHeartbeats 16000000 in
set_option maxRecDepth 100000 in
theorem kids_6 (m : Nat) (H : OkCd m) (s : ByteArray) (n : Int) (ks : List Nd) (ht : 1 + sizesN ks ≤ m + 1) (hb : s.size + (ks.length + bulksN ks) ≤ 1048576) (w : World) (base : Nat) (v : Value) (hv : NdV w base (.mk 6 s n ks) v) :
    Calls Tryz.prog 33 #[v] w fun e w' => e = .returned (.bool (kidsR 6 ks)) ∧ Kept w w' := by
  have hvN := hv
  rw [NdV] at hv
  obtain ⟨ao, cap, rfl, hml, hks⟩ := hv
  have b0 := Cells.new w 29 #[.int .i64 6, .string s, .int .i64 n, .slice ao ks.length cap]
  have k0 : Kept w (w.alloc (.cells #[.int .i64 6, .string s, .int .i64 n, .slice ao ks.length cap] 29)) := Kept.alloc (Below.refl _ _) _
  have hvB := hvN.kept k0
  have hll := len_sizes ks
  have hlb : ks.length ≤ 1048576 := by omega
  rw [kidsR_6]
  by_cases hl : ks.length = 2
  · have hE := l13Exprs_ok m H (.mk 6 s n ks) (by simp only [Nd.size]; omega) (by simp only [Nd.bulk]; omega) 1 (by omega) _ base _ hvB
    simp only [Nd.kids] at hE
    have hB := fun (u : World) (hu : Kept (w.alloc (.cells #[.int .i64 6, .string s, .int .i64 n, .slice ao ks.length cap] 29)) u) => l13Blocks_ok m H (.mk 6 s n ks) (by simp only [Nd.size]; omega) (by simp only [Nd.bulk]; omega) 1 (by simp only [Nd.kids]; omega) u base _ (hvB.kept hu)
    simp only [Nd.kids] at hB
    obtain ⟨x, hx⟩ : ∃ x, exR 1 ks = x := ⟨_, rfl⟩
    obtain ⟨y, hy⟩ : ∃ y, (ks.drop 1).all (stOk 1) = y := ⟨_, rfl⟩
    rw [hx] at hE
    rw [hy] at hB
    have HX : Hid ((decide (ks.length = 2) && (exR 1 ks && (ks.drop 1).all (stOk 1))) = (x && y)) := by rw [Hid, hx, hy, decide_eq_true hl]; rfl
    have q1 : (((ks.length : Nat) : Int) == 2) = true := by rw [hl]; rfl
    clear hx hy hks hvN hvB hl
    cases x
    · go_enter Tryz.func33, Tryz.ntmps33
      go_wp2_with (first | (go_at_call 46; refine hE.mono ?_; rintro e w1 ⟨rfl, hk1⟩; have y1 := b0.kept hk1; have c0 := y1.cell 0; have c1 := y1.cell 1; have c2 := y1.cell 2; have c3 := y1.cell 3))
      go_ret
      exact ⟨by rw [HX.out]; rfl, k0.trans hk1⟩
    · go_enter Tryz.func33, Tryz.ntmps33
      go_wp2_with (first | (have _tk := hk1; go_at_call 47; refine (hB w1 hk1).mono ?_; rintro e w2 ⟨rfl, hk2⟩) | (go_at_call 46; refine hE.mono ?_; rintro e w1 ⟨rfl, hk1⟩; have y1 := b0.kept hk1; have c0 := y1.cell 0; have c1 := y1.cell 1; have c2 := y1.cell 2; have c3 := y1.cell 3))
      go_ret
      exact ⟨by rw [HX.out]; rfl, k0.trans (hk1.trans hk2)⟩
  · have HX : Hid ((decide (ks.length = 2) && (exR 1 ks && (ks.drop 1).all (stOk 1))) = false) := by rw [Hid, decide_eq_false hl]; rfl
    have q1 : (((ks.length : Nat) : Int) == 2) = false := by simp; omega
    clear hks hvN hvB hl
    go_enter Tryz.func33, Tryz.ntmps33
    go_wp2_with fail
    go_ret
    exact ⟨by rw [HX.out]; rfl, k0⟩
set_option maxHeartbeats 16000000 in
set_option maxRecDepth 100000 in
theorem kids_18 (m : Nat) (H : OkCd m) (s : ByteArray) (n : Int) (ks : List Nd) (ht : 1 + sizesN ks ≤ m + 1) (hb : s.size + (ks.length + bulksN ks) ≤ 1048576) (w : World) (base : Nat) (v : Value) (hv : NdV w base (.mk 18 s n ks) v) :
    Calls Tryz.prog 33 #[v] w fun e w' => e = .returned (.bool (kidsR 18 ks)) ∧ Kept w w' := by
  have hvN := hv
  rw [NdV] at hv
  obtain ⟨ao, cap, rfl, hml, hks⟩ := hv
  have b0 := Cells.new w 29 #[.int .i64 18, .string s, .int .i64 n, .slice ao ks.length cap]
  have k0 : Kept w (w.alloc (.cells #[.int .i64 18, .string s, .int .i64 n, .slice ao ks.length cap] 29)) := Kept.alloc (Below.refl _ _) _
  have hvB := hvN.kept k0
  have hll := len_sizes ks
  have hlb : ks.length ≤ 1048576 := by omega
  rw [kidsR_18]
  by_cases hl : 1 ≤ ks.length
  · have hE := l13Exprs_ok m H (.mk 18 s n ks) (by simp only [Nd.size]; omega) (by simp only [Nd.bulk]; omega) ks.length (by omega) _ base _ hvB
    simp only [Nd.kids] at hE
    obtain ⟨x, hx⟩ : ∃ x, exR ks.length ks = x := ⟨_, rfl⟩
    rw [hx] at hE
    have HX : Hid ((decide (1 ≤ ks.length) && exR ks.length ks) = x) := by rw [Hid, hx, decide_eq_true hl]; rfl
    have q1 : (1 : Int) ≤ ((ks.length : Nat) : Int) := by omega
    clear hx hks hvN hvB hl
    go_enter Tryz.func33, Tryz.ntmps33
    go_wp2_with (go_at_call 46; refine hE.mono ?_; rintro e w1 ⟨rfl, hk1⟩; have y1 := b0.kept hk1; have c0 := y1.cell 0; have c1 := y1.cell 1; have c2 := y1.cell 2; have c3 := y1.cell 3)
    go_ret
    exact ⟨by rw [HX.out]; rfl, k0.trans hk1⟩
  · have HX : Hid ((decide (1 ≤ ks.length) && exR ks.length ks) = false) := by rw [Hid, decide_eq_false hl]; rfl
    have q1 : ¬ (1 : Int) ≤ ((ks.length : Nat) : Int) := by omega
    clear hks hvN hvB hl
    go_enter Tryz.func33, Tryz.ntmps33
    go_wp2_with fail
    go_ret
    exact ⟨by rw [HX.out]; rfl, k0⟩
set_option maxHeartbeats 16000000 in
set_option maxRecDepth 100000 in
theorem kids_27 (m : Nat) (H : OkCd m) (s : ByteArray) (n : Int) (ks : List Nd) (ht : 1 + sizesN ks ≤ m + 1) (hb : s.size + (ks.length + bulksN ks) ≤ 1048576) (w : World) (base : Nat) (v : Value) (hv : NdV w base (.mk 27 s n ks) v) :
    Calls Tryz.prog 33 #[v] w fun e w' => e = .returned (.bool (kidsR 27 ks)) ∧ Kept w w' := by
  have hvN := hv
  rw [NdV] at hv
  obtain ⟨ao, cap, rfl, hml, hks⟩ := hv
  have b0 := Cells.new w 29 #[.int .i64 27, .string s, .int .i64 n, .slice ao ks.length cap]
  have k0 : Kept w (w.alloc (.cells #[.int .i64 27, .string s, .int .i64 n, .slice ao ks.length cap] 29)) := Kept.alloc (Below.refl _ _) _
  have hvB := hvN.kept k0
  have hll := len_sizes ks
  have hlb : ks.length ≤ 1048576 := by omega
  rw [kidsR_27]
  by_cases hl : ks.length = 1
  · have hB := fun (u : World) (hu : Kept (w.alloc (.cells #[.int .i64 27, .string s, .int .i64 n, .slice ao ks.length cap] 29)) u) => l13Blocks_ok m H (.mk 27 s n ks) (by simp only [Nd.size]; omega) (by simp only [Nd.bulk]; omega) 0 (by simp only [Nd.kids]; omega) u base _ (hvB.kept hu)
    simp only [Nd.kids] at hB
    obtain ⟨x, hx⟩ : ∃ x, (ks.drop 0).all (stOk 1) = x := ⟨_, rfl⟩
    rw [hx] at hB
    have HX : Hid ((decide (ks.length = 1) && (ks.drop 0).all (stOk 1)) = x) := by rw [Hid, hx, decide_eq_true hl]; rfl
    have q1 : (((ks.length : Nat) : Int) == 1) = true := by rw [hl]; rfl
    have hB0 := hB _ (Below.refl _ _)
    clear hx hks hvN hvB hl hB
    go_enter Tryz.func33, Tryz.ntmps33
    go_wp2_with (go_at_call 47; refine hB0.mono ?_; rintro e w2 ⟨rfl, hk2⟩)
    go_ret
    exact ⟨by rw [HX.out]; rfl, k0.trans hk2⟩
  · have HX : Hid ((decide (ks.length = 1) && (ks.drop 0).all (stOk 1)) = false) := by rw [Hid, decide_eq_false hl]; rfl
    have q1 : (((ks.length : Nat) : Int) == 1) = false := by simp; omega
    clear hks hvN hvB hl
    go_enter Tryz.func33, Tryz.ntmps33
    go_wp2_with fail
    go_ret
    exact ⟨by rw [HX.out]; rfl, k0⟩
set_option maxHeartbeats 16000000 in
set_option maxRecDepth 100000 in
theorem kids_z (m : Nat) (_ : OkCd m) (s : ByteArray) (n : Int) (ks : List Nd) (op : Int) (h : ∀ j ∈ [(1 : Int), 2, 3, 4, 5, 6, 7, 8, 9, 17, 18, 19, 20, 21, 22, 23, 24, 25, 26, 27], op ≠ j) (_ : 1 + sizesN ks ≤ m + 1) (hb : s.size + (ks.length + bulksN ks) ≤ 1048576) (w : World) (base : Nat) (v : Value) (hv : NdV w base (.mk op s n ks) v) :
    Calls Tryz.prog 33 #[v] w fun e w' => e = .returned (.bool (kidsR op ks)) ∧ Kept w w' := by
  have hvN := hv
  rw [NdV] at hv
  obtain ⟨ao, cap, rfl, hml, hks⟩ := hv
  have b0 := Cells.new w 29 #[.int .i64 op, .string s, .int .i64 n, .slice ao ks.length cap]
  have k0 : Kept w (w.alloc (.cells #[.int .i64 op, .string s, .int .i64 n, .slice ao ks.length cap] 29)) := Kept.alloc (Below.refl _ _) _
  have hvB := hvN.kept k0
  have hll := len_sizes ks
  have hlb : ks.length ≤ 1048576 := by omega
  rw [kidsR_z h]
  have z1 : (op == 1) = false := by simpa using h 1 (by simp)
  have z2 : (op == 2) = false := by simpa using h 2 (by simp)
  have z3 : (op == 3) = false := by simpa using h 3 (by simp)
  have z4 : (op == 4) = false := by simpa using h 4 (by simp)
  have z5 : (op == 5) = false := by simpa using h 5 (by simp)
  have z6 : (op == 6) = false := by simpa using h 6 (by simp)
  have z7 : (op == 7) = false := by simpa using h 7 (by simp)
  have z8 : (op == 8) = false := by simpa using h 8 (by simp)
  have z9 : (op == 9) = false := by simpa using h 9 (by simp)
  have z17 : (op == 17) = false := by simpa using h 17 (by simp)
  have z18 : (op == 18) = false := by simpa using h 18 (by simp)
  have z19 : (op == 19) = false := by simpa using h 19 (by simp)
  have z20 : (op == 20) = false := by simpa using h 20 (by simp)
  have z21 : (op == 21) = false := by simpa using h 21 (by simp)
  have z22 : (op == 22) = false := by simpa using h 22 (by simp)
  have z23 : (op == 23) = false := by simpa using h 23 (by simp)
  have z24 : (op == 24) = false := by simpa using h 24 (by simp)
  have z25 : (op == 25) = false := by simpa using h 25 (by simp)
  have z26 : (op == 26) = false := by simpa using h 26 (by simp)
  have z27 : (op == 27) = false := by simpa using h 27 (by simp)
  have q1 : (((ks.length : Nat) : Int) == 0) = decide (ks.length = 0) := by
    by_cases hl : ks.length = 0
    · rw [hl]; rfl
    · rw [decide_eq_false hl]; simp only [beq_eq_false_iff_ne, ne_eq]; omega
  have HX : Hid _ := q1
  clear hks hvN hvB h q1
  go_enter Tryz.func33, Tryz.ntmps33
  go_wp2_with fail
  go_ret
  exact ⟨congrArg (fun b => Ending.returned (Value.bool b)) HX.out, k0⟩
set_option maxHeartbeats 16000000 in
set_option maxRecDepth 100000 in
theorem kids_1 (m : Nat) (H : OkCd m) (s : ByteArray) (n : Int) (ks : List Nd) (ht : 1 + sizesN ks ≤ m + 1) (hb : s.size + (ks.length + bulksN ks) ≤ 1048576) (w : World) (base : Nat) (v : Value) (hv : NdV w base (.mk 1 s n ks) v) :
    Calls Tryz.prog 33 #[v] w fun e w' => e = .returned (.bool (kidsR 1 ks)) ∧ Kept w w' := by
  have hvN := hv
  rw [NdV] at hv
  obtain ⟨ao, cap, rfl, hml, hks⟩ := hv
  have b0 := Cells.new w 29 #[.int .i64 1, .string s, .int .i64 n, .slice ao ks.length cap]
  have k0 : Kept w (w.alloc (.cells #[.int .i64 1, .string s, .int .i64 n, .slice ao ks.length cap] 29)) := Kept.alloc (Below.refl _ _) _
  have hvB := hvN.kept k0
  have hll := len_sizes ks
  have hlb : ks.length ≤ 1048576 := by omega
  rw [kidsR_1]
  have HKS : Hid (ks = [] ∨ ∃ b off, ao = some ⟨b, off, none⟩ ∧ base ≤ b ∧ NdsV w base b off ks) := hks
  have HIH : Hid (OkCd m) := H
  clear hks H hvN hvB
  go_enter Tryz.func33, Tryz.ntmps33
  go_wp2_with fail
  go_loopw [4] (fun iv wr => ∃ (k : Nat), iv = .int .i64 k ∧ k ≤ ks.length ∧ Hid ((ks.take k).all (stOk 2) = true) ∧ Hid (Kept (w.alloc (.cells #[.int .i64 1, .string s, .int .i64 n, .slice ao ks.length cap] 29)) wr)) (fun i _ => ks.length - (intOf i).toNat)
  case atStart => exact ⟨0, rfl, Nat.zero_le _, by simp [Hid], Below.refl _ _⟩
  case round =>
    obtain ⟨k, rfl, hk, hP, hK⟩ := hrel
    have c3 := (b0.kept hK.out).cell 3
    by_cases hlt : k < ks.length
    · have r2 : (k : Int) < (ks.length : Int) := by omega
      obtain ⟨x, hx⟩ : ∃ x, ks[k]? = some x := ⟨ks[k], List.getElem?_eq_getElem hlt⟩
      have hxs := size_mem hx
      have hxb := bulk_mem hx
      obtain ⟨b, off, a2, c2, rfl, g0, g1, g2, g3, hv⟩ := kid_at HKS.out (k0.trans hK.out) hx
      have hC := HIH.out x (by omega) (by omega)
      have hC := hC wr base _ hv
      have HX : Hid _ := hx
      have so := @st_op x.op
      obtain ⟨xo, hxo⟩ : ∃ o, x.op = o := ⟨_, rfl⟩
      obtain ⟨xt, hxt⟩ : ∃ o, okT x = o := ⟨_, rfl⟩
      have HPX : Hid (∀ a, stOk a x = (decide (st xo = a) && xt)) := fun a => by rw [stOk, hxo, hxt]
      rw [hxo] at g0 so hC
      rw [hxt] at hC
      clear hx hxs hxb hv hxo hxt
      by_cases h1 : 2 ≤ xo ∧ xo ≤ 9
      · have HP1 : Hid (stOk 2 x = xt) := by rw [Hid, HPX.out, so.2.1.2 h1]; simp
        have hI := l1In_yes xo 2 9 wr h1.1 h1.2
        clear so h1
        cases xt
        · have HF : Hid (ks.all (stOk 2) = false) := all_bad' HX.out HP1.out
          go_wp2_with (first | (go_at_call 37; refine hI.mono ?_; rintro e wx ⟨rfl, rfl⟩) | (go_at_call 24; refine hC.mono ?_; rintro e w1 ⟨rfl, hk1⟩))
          go_ret
          exact ⟨by rw [HF.out]; rfl, (k0.trans hK.out).trans hk1⟩
        · have HA : Hid ((ks.take (k + 1)).all (stOk 2) = true) := all_step hP.out HX.out HP1.out
          go_wp2_with (first | (go_at_call 37; refine hI.mono ?_; rintro e wx ⟨rfl, rfl⟩) | (go_at_call 24; refine hC.mono ?_; rintro e w1 ⟨rfl, hk1⟩))
          exact ⟨⟨k + 1, by go_num, by omega, HA.out, hK.out.trans hk1⟩, by simp [intOf]; omega⟩
      · have HP1 : Hid (stOk 2 x = false) := by rw [Hid, HPX.out]; simp [so.2.1, h1]
        have HF : Hid (ks.all (stOk 2) = false) := all_bad' HX.out HP1.out
        have hI := l1In_no xo 2 9 wr (by omega)
        clear h1 so
        go_wp2_with (first | (go_at_call 37; refine hI.mono ?_; rintro e wx ⟨rfl, rfl⟩) | fail)
        go_ret
        exact ⟨by rw [HF.out]; rfl, k0.trans hK.out⟩
    · have r2 : ¬ (k : Int) < (ks.length : Int) := by omega
      have HF : Hid (ks.all (stOk 2) = true) := by
        have h := hP.out
        rw [List.take_of_length_le (by omega)] at h
        exact h
      go_wp2_with fail
      go_ret
      exact ⟨by rw [HF.out]; rfl, k0.trans hK.out⟩
set_option maxHeartbeats 16000000 in
set_option maxRecDepth 100000 in
theorem kids_25 (m : Nat) (H : OkCd m) (s : ByteArray) (n : Int) (ks : List Nd) (ht : 1 + sizesN ks ≤ m + 1) (hb : s.size + (ks.length + bulksN ks) ≤ 1048576) (w : World) (base : Nat) (v : Value) (hv : NdV w base (.mk 25 s n ks) v) :
    Calls Tryz.prog 33 #[v] w fun e w' => e = .returned (.bool (kidsR 25 ks)) ∧ Kept w w' := by
  have hvN := hv
  rw [NdV] at hv
  obtain ⟨ao, cap, rfl, hml, hks⟩ := hv
  have b0 := Cells.new w 29 #[.int .i64 25, .string s, .int .i64 n, .slice ao ks.length cap]
  have k0 : Kept w (w.alloc (.cells #[.int .i64 25, .string s, .int .i64 n, .slice ao ks.length cap] 29)) := Kept.alloc (Below.refl _ _) _
  have hvB := hvN.kept k0
  have hll := len_sizes ks
  have hlb : ks.length ≤ 1048576 := by omega
  rw [kidsR_25]
  have HKS : Hid (ks = [] ∨ ∃ b off, ao = some ⟨b, off, none⟩ ∧ base ≤ b ∧ NdsV w base b off ks) := hks
  have HIH : Hid (OkCd m) := H
  clear hks H hvN hvB
  go_enter Tryz.func33, Tryz.ntmps33
  go_wp2_with fail
  go_loopw [5] (fun iv wr => ∃ (k : Nat), iv = .int .i64 k ∧ k ≤ ks.length ∧ Hid ((ks.take k).all (stOk 4) = true) ∧ Hid (Kept (w.alloc (.cells #[.int .i64 25, .string s, .int .i64 n, .slice ao ks.length cap] 29)) wr)) (fun i _ => ks.length - (intOf i).toNat)
  case atStart => exact ⟨0, rfl, Nat.zero_le _, by simp [Hid], Below.refl _ _⟩
  case round =>
    obtain ⟨k, rfl, hk, hP, hK⟩ := hrel
    have c3 := (b0.kept hK.out).cell 3
    by_cases hlt : k < ks.length
    · have r2 : (k : Int) < (ks.length : Int) := by omega
      obtain ⟨x, hx⟩ : ∃ x, ks[k]? = some x := ⟨ks[k], List.getElem?_eq_getElem hlt⟩
      have hxs := size_mem hx
      have hxb := bulk_mem hx
      obtain ⟨b, off, a2, c2, rfl, g0, g1, g2, g3, hv⟩ := kid_at HKS.out (k0.trans hK.out) hx
      have hC := HIH.out x (by omega) (by omega)
      have hC := hC wr base _ hv
      have HX : Hid _ := hx
      have so := @st_op x.op
      obtain ⟨xo, hxo⟩ : ∃ o, x.op = o := ⟨_, rfl⟩
      obtain ⟨xt, hxt⟩ : ∃ o, okT x = o := ⟨_, rfl⟩
      have HPX : Hid (∀ a, stOk a x = (decide (st xo = a) && xt)) := fun a => by rw [stOk, hxo, hxt]
      rw [hxo] at g0 so hC
      rw [hxt] at hC
      clear hx hxs hxb hv hxo hxt
      by_cases h1 : xo = 26
      · have HP1 : Hid (stOk 4 x = xt) := by rw [Hid, HPX.out, so.2.2.2.2 h1]; simp
        have r5 : (xo != 26) = false := by simpa using h1
        clear so h1
        cases xt
        · have HF : Hid (ks.all (stOk 4) = false) := all_bad' HX.out HP1.out
          go_wp2_with (first | (go_at_call 24; refine hC.mono ?_; rintro e w1 ⟨rfl, hk1⟩))
          go_ret
          exact ⟨by rw [HF.out]; rfl, (k0.trans hK.out).trans hk1⟩
        · have HA : Hid ((ks.take (k + 1)).all (stOk 4) = true) := all_step hP.out HX.out HP1.out
          go_wp2_with (first | (go_at_call 24; refine hC.mono ?_; rintro e w1 ⟨rfl, hk1⟩))
          exact ⟨⟨k + 1, by go_num, by omega, HA.out, hK.out.trans hk1⟩, by simp [intOf]; omega⟩
      · have HP1 : Hid (stOk 4 x = false) := by rw [Hid, HPX.out]; simp [so.2.2.2, h1]
        have HF : Hid (ks.all (stOk 4) = false) := all_bad' HX.out HP1.out
        have r5 : (xo != 26) = true := by simpa using h1
        clear h1 so
        go_wp2_with (first | fail)
        go_ret
        exact ⟨by rw [HF.out]; rfl, k0.trans hK.out⟩
    · have r2 : ¬ (k : Int) < (ks.length : Int) := by omega
      have HF : Hid (ks.all (stOk 4) = true) := by
        have h := hP.out
        rw [List.take_of_length_le (by omega)] at h
        exact h
      go_wp2_with fail
      go_ret
      exact ⟨by rw [HF.out]; rfl, k0.trans hK.out⟩
theorem l13Kids_ok (m : Nat) (H : OkCd m) (op : Int) (s : ByteArray) (n : Int) (ks : List Nd) (ht : 1 + sizesN ks ≤ m + 1) (hb : s.size + (ks.length + bulksN ks) ≤ 1048576) (w : World) (base : Nat) (v : Value) (hv : NdV w base (.mk op s n ks) v) :
    Calls Tryz.prog 33 #[v] w fun e w' => e = .returned (.bool (kidsR op ks)) ∧ Kept w w' := by
  by_cases ha : op = 2 ∨ op = 3 ∨ op = 7 ∨ op = 8 ∨ op = 9 ∨ op = 17 ∨ op = 24 ∨ op = 26
  · exact kids_a m H s n ks op ha ht hb w base v hv
  by_cases hb2 : op = 4 ∨ op = 19 ∨ op = 20 ∨ op = 21 ∨ op = 22 ∨ op = 23
  · exact kids_b m H s n ks op hb2 ht hb w base v hv
  by_cases h1 : op = 1
  · subst h1; exact kids_1 m H s n ks ht hb w base v hv
  by_cases h5 : op = 5
  · subst h5; exact kids_5 m H s n ks ht hb w base v hv
  by_cases h6 : op = 6
  · subst h6; exact kids_6 m H s n ks ht hb w base v hv
  by_cases h18 : op = 18
  · subst h18; exact kids_18 m H s n ks ht hb w base v hv
  by_cases h25 : op = 25
  · subst h25; exact kids_25 m H s n ks ht hb w base v hv
  by_cases h27 : op = 27
  · subst h27; exact kids_27 m H s n ks ht hb w base v hv
  exact kids_z m H s n ks op (by
    simp only [List.mem_cons, List.not_mem_nil, or_false]
    rintro j (rfl | rfl | rfl | rfl | rfl | rfl | rfl | rfl | rfl | rfl | rfl | rfl | rfl | rfl | rfl | rfl | rfl | rfl | rfl | rfl) <;> omega) ht hb w base v hv
end Go.Proofs.YtlinbkgeahgkjaaGreatDoor
namespace Go.Proofs.YtlinbkgeahgkjaaGreatDoor
open Go.RowKit
set_option linter.unusedSimpArgs false

set_option maxHeartbeats 16000000 in
set_option maxRecDepth 100000 in
theorem l13Ok_step (m : Nat) (H : OkCd m) : OkCd (m + 1) := by
  intro t ht hb w base v hv
  cases t with
  | mk op s n ks =>
  simp only [Nd.size, Nd.bulk] at ht hb
  have hvN := hv
  rw [NdV] at hv
  obtain ⟨ao, cap, rfl, hml, hks⟩ := hv
  have b0 := Cells.new w 29 #[.int .i64 op, .string s, .int .i64 n, .slice ao ks.length cap]
  have k0 : Kept w (w.alloc (.cells #[.int .i64 op, .string s, .int .i64 n, .slice ao ks.length cap] 29)) := Kept.alloc (Below.refl _ _) _
  have hK := l13Kids_ok m H op s n ks ht hb _ base _ (hvN.kept k0)
  have hsb : s.size ≤ 1048576 := by omega
  rw [show okT (.mk op s n ks) = (ownB op s n && kidsR op ks) by rw [okT]; rfl]
  obtain ⟨kb, hkb⟩ : ∃ b, kidsR op ks = b := ⟨_, rfl⟩
  rw [hkb] at hK
  rw [hkb]
  clear hkb hks hvN H ht hb
  by_cases hn : n = 0
  · subst hn
    cases kb with
    | false =>
      have HX : Hid ((ownB op s 0 && false) = false) := by simp [Hid]
      go_enter Tryz.func24, Tryz.ntmps24
      go_wp2_with (go_at_call 33; refine hK.mono ?_; rintro e w1 ⟨rfl, hk1⟩; have y1 := b0.kept hk1; have c0 := y1.cell 0; have c1 := y1.cell 1; have c2 := y1.cell 2; have c3 := y1.cell 3)
      go_ret
      exact ⟨by rw [HX.out]; rfl, k0.trans hk1⟩
    | true =>
      by_cases hA : op = 2 ∨ op = 3 ∨ op = 16 ∨ op = 26
      · have h := hA
        obtain ⟨x, hx⟩ : ∃ x, nameR s false = x := ⟨_, rfl⟩
        have hN := fun u => l13Name_ok u s false hsb
        rw [hx] at hN
        have HO : Hid (ownB op s 0 = x) := by rw [Hid, ← hx]; rcases h with rfl | rfl | rfl | rfl <;> rfl
        have HX : Hid ((ownB op s 0 && true) = x) := by rw [Hid, HO.out]; simp
        clear hx
        rcases h with rfl | rfl | rfl | rfl
        all_goals (
          go_enter Tryz.func24, Tryz.ntmps24
          go_wp2_with (first | (go_at_call 34; refine (hN w1).mono ?_; rintro e w2 ⟨rfl, hk2⟩) | (go_at_call 33; refine hK.mono ?_; rintro e w1 ⟨rfl, hk1⟩; have y1 := b0.kept hk1; have c0 := y1.cell 0; have c1 := y1.cell 1; have c2 := y1.cell 2; have c3 := y1.cell 3))
          go_ret
          exact ⟨by rw [HX.out]; rfl, k0.trans (hk1.trans hk2)⟩)
      by_cases hB : op = 4 ∨ op = 17
      · have h := hB
        obtain ⟨x, hx⟩ : ∃ x, nameR s true = x := ⟨_, rfl⟩
        have hN := fun u => l13Name_ok u s true hsb
        rw [hx] at hN
        have HO : Hid (ownB op s 0 = x) := by rw [Hid, ← hx]; rcases h with rfl | rfl <;> rfl
        have HX : Hid ((ownB op s 0 && true) = x) := by rw [Hid, HO.out]; simp
        clear hx
        rcases h with rfl | rfl
        all_goals (
          go_enter Tryz.func24, Tryz.ntmps24
          go_wp2_with (first | (go_at_call 34; refine (hN w1).mono ?_; rintro e w2 ⟨rfl, hk2⟩) | (go_at_call 33; refine hK.mono ?_; rintro e w1 ⟨rfl, hk1⟩; have y1 := b0.kept hk1; have c0 := y1.cell 0; have c1 := y1.cell 1; have c2 := y1.cell 2; have c3 := y1.cell 3))
          go_ret
          exact ⟨by rw [HX.out]; rfl, k0.trans (hk1.trans hk2)⟩)
      by_cases hC : op = 11
      · have h := hC
        obtain ⟨x, hx⟩ : ∃ x, textR s = x := ⟨_, rfl⟩
        have hN := fun u => l13Text_ok u s hsb
        rw [hx] at hN
        have HO : Hid (ownB op s 0 = x) := by rw [Hid, ← hx]; rcases h with rfl <;> rfl
        have HX : Hid ((ownB op s 0 && true) = x) := by rw [Hid, HO.out]; simp
        clear hx
        rcases h with rfl
        all_goals (
          go_enter Tryz.func24, Tryz.ntmps24
          go_wp2_with (first | (go_at_call 35; refine (hN w1).mono ?_; rintro e w2 ⟨rfl, hk2⟩) | (go_at_call 33; refine hK.mono ?_; rintro e w1 ⟨rfl, hk1⟩; have y1 := b0.kept hk1; have c0 := y1.cell 0; have c1 := y1.cell 1; have c2 := y1.cell 2; have c3 := y1.cell 3))
          go_ret
          exact ⟨by rw [HX.out]; rfl, k0.trans (hk1.trans hk2)⟩)
      by_cases hD : op = 27
      · have h := hD
        obtain ⟨x, hx⟩ : ∃ x, namesR s = x := ⟨_, rfl⟩
        have hN := fun u => l13Names_ok u s hsb
        rw [hx] at hN
        have HO : Hid (ownB op s 0 = x) := by rw [Hid, ← hx]; rcases h with rfl <;> rfl
        have HX : Hid ((ownB op s 0 && true) = x) := by rw [Hid, HO.out]; simp
        clear hx
        rcases h with rfl
        all_goals (
          go_enter Tryz.func24, Tryz.ntmps24
          go_wp2_with (first | (go_at_call 36; refine (hN w1).mono ?_; rintro e w2 ⟨rfl, hk2⟩) | (go_at_call 33; refine hK.mono ?_; rintro e w1 ⟨rfl, hk1⟩; have y1 := b0.kept hk1; have c0 := y1.cell 0; have c1 := y1.cell 1; have c2 := y1.cell 2; have c3 := y1.cell 3))
          go_ret
          exact ⟨by rw [HX.out]; rfl, k0.trans (hk1.trans hk2)⟩)
      by_cases h10 : op = 10
      · subst h10
        have HOW : Hid (ownB 10 s 0 = (s.toList.isEmpty && true)) := by rw [Hid, ownB]; simp
        cases hse : s.toList.isEmpty with
        | false =>
          have HX : Hid ((ownB 10 s 0 && true) = false) := by rw [Hid, HOW.out, hse]; simp
          have HSE : s.toList.isEmpty = false := hse
          clear hse
          go_enter Tryz.func24, Tryz.ntmps24
          go_wp2_with (go_at_call 33; refine hK.mono ?_; rintro e w1 ⟨rfl, hk1⟩; have y1 := b0.kept hk1; have c0 := y1.cell 0; have c1 := y1.cell 1; have c2 := y1.cell 2; have c3 := y1.cell 3)
          go_ret
          exact ⟨by rw [HX.out]; rfl, k0.trans hk1⟩
        | true =>
          have HX : Hid ((ownB 10 s 0 && true) = true) := by rw [Hid, HOW.out, hse]; simp
          have HSE : s.toList.isEmpty = true := hse
          have hI := fun (u : World) => l1In_yes 0 (-2147483647) 2147483647 u (by omega) (by omega)
          clear hse
          go_enter Tryz.func24, Tryz.ntmps24
          go_wp2_with (first | (go_at_call 37; refine (hI _).mono ?_; rintro e wx ⟨rfl, rfl⟩) | (go_at_call 33; refine hK.mono ?_; rintro e w1 ⟨rfl, hk1⟩; have y1 := b0.kept hk1; have c0 := y1.cell 0; have c1 := y1.cell 1; have c2 := y1.cell 2; have c3 := y1.cell 3))
          go_ret
          exact ⟨by rw [HX.out]; rfl, k0.trans hk1⟩
      have HOW : Hid (ownB op s 0 = (s.toList.isEmpty && decide (1 ≤ op ∧ op ≤ 27))) := by
        rw [Hid, ownB, if_neg h10, if_neg (by omega), if_neg (by omega), if_neg (by omega), if_neg (by omega)]
        simp
      have z2 : (op == 2) = false := by simp; omega
      have z3 : (op == 3) = false := by simp; omega
      have z4 : (op == 4) = false := by simp; omega
      have z10 : (op == 10) = false := by simp; omega
      have z11 : (op == 11) = false := by simp; omega
      have z16 : (op == 16) = false := by simp; omega
      have z17 : (op == 17) = false := by simp; omega
      have z26 : (op == 26) = false := by simp; omega
      have z27 : (op == 27) = false := by simp; omega
      clear h10 hA hB hC hD
      cases hse : s.toList.isEmpty with
      | false =>
        have HX : Hid ((ownB op s 0 && true) = false) := by rw [Hid, HOW.out, hse]; simp
        have HSE : s.toList.isEmpty = false := hse
        clear hse
        go_enter Tryz.func24, Tryz.ntmps24
        go_wp2_with (go_at_call 33; refine hK.mono ?_; rintro e w1 ⟨rfl, hk1⟩; have y1 := b0.kept hk1; have c0 := y1.cell 0; have c1 := y1.cell 1; have c2 := y1.cell 2; have c3 := y1.cell 3)
        go_ret
        exact ⟨by rw [HX.out]; rfl, k0.trans hk1⟩
      | true =>
        have HX : Hid ((ownB op s 0 && true) = (decide (1 ≤ op) && decide (op ≤ 27))) := by rw [Hid, HOW.out, hse]; simp
        have HSE : s.toList.isEmpty = true := hse
        have hI := fun (u : World) => l1In_b op 1 27 u
        clear hse
        go_enter Tryz.func24, Tryz.ntmps24
        go_wp2_with (first | (go_at_call 37; refine (hI _).mono ?_; rintro e wx ⟨rfl, rfl⟩) | (go_at_call 33; refine hK.mono ?_; rintro e w1 ⟨rfl, hk1⟩; have y1 := b0.kept hk1; have c0 := y1.cell 0; have c1 := y1.cell 1; have c2 := y1.cell 2; have c3 := y1.cell 3))
        go_ret
        exact ⟨by rw [HX.out]; rfl, k0.trans hk1⟩
  · have n1 : (n != 0) = true := by simpa using hn
    by_cases h10 : op = 10
    · subst h10
      have HOW : Hid (ownB 10 s n = (s.toList.isEmpty && decide (-2147483647 ≤ n ∧ n ≤ 2147483647))) := by rw [Hid, ownB]; simp
      clear hn
      cases kb with
      | false =>
        have HX : Hid ((ownB 10 s n && false) = false) := by simp [Hid]
        go_enter Tryz.func24, Tryz.ntmps24
        go_wp2_with (go_at_call 33; refine hK.mono ?_; rintro e w1 ⟨rfl, hk1⟩; have y1 := b0.kept hk1; have c0 := y1.cell 0; have c1 := y1.cell 1; have c2 := y1.cell 2; have c3 := y1.cell 3)
        go_ret
        exact ⟨by rw [HX.out]; rfl, k0.trans hk1⟩
      | true =>
        cases hse : s.toList.isEmpty with
        | false =>
          have HX : Hid ((ownB 10 s n && true) = false) := by rw [Hid, HOW.out, hse]; simp
          have HSE : s.toList.isEmpty = false := hse
          clear hse
          go_enter Tryz.func24, Tryz.ntmps24
          go_wp2_with (go_at_call 33; refine hK.mono ?_; rintro e w1 ⟨rfl, hk1⟩; have y1 := b0.kept hk1; have c0 := y1.cell 0; have c1 := y1.cell 1; have c2 := y1.cell 2; have c3 := y1.cell 3)
          go_ret
          exact ⟨by rw [HX.out]; rfl, k0.trans hk1⟩
        | true =>
          have HX : Hid ((ownB 10 s n && true) = (decide (-2147483647 ≤ n) && decide (n ≤ 2147483647))) := by rw [Hid, HOW.out, hse]; simp
          have HSE : s.toList.isEmpty = true := hse
          have hI := fun (u : World) => l1In_b n (-2147483647) 2147483647 u
          clear hse
          go_enter Tryz.func24, Tryz.ntmps24
          go_wp2_with (first | (go_at_call 37; refine (hI _).mono ?_; rintro e wx ⟨rfl, rfl⟩) | (go_at_call 33; refine hK.mono ?_; rintro e w1 ⟨rfl, hk1⟩; have y1 := b0.kept hk1; have c0 := y1.cell 0; have c1 := y1.cell 1; have c2 := y1.cell 2; have c3 := y1.cell 3))
          go_ret
          exact ⟨by rw [HX.out]; rfl, k0.trans hk1⟩
    · have HX : Hid ((ownB op s n && kb) = false) := by rw [Hid, ownB, if_neg h10, decide_eq_false hn]; simp
      have o1 : (op != 10) = true := by simpa using h10
      clear hn h10
      go_enter Tryz.func24, Tryz.ntmps24
      go_wp2_with fail
      go_ret
      exact ⟨by rw [HX.out]; rfl, k0⟩
theorem l13Ok_ok : ∀ m, OkCd m
  | 0 => fun t ht => by have := t.size_pos; omega
  | m + 1 => l13Ok_step m (l13Ok_ok m)
set_option maxHeartbeats 16000000 in
set_option maxRecDepth 100000 in
theorem spec_NodeOk_ok (t : Nd) (hb : t.bulk ≤ 1048576) (w : World) (base : Nat) (v : Value) (hv : NdV w base t v) :
    Calls Tryz.prog 14 #[v] w fun e w' => e = .returned (.bool (nodeR t)) ∧ Kept w w' := by
  have hsz := t.size_le
  cases t with
  | mk op s n ks =>
  have hvN := hv
  rw [NdV] at hv
  obtain ⟨ao, cap, rfl, hml, hks⟩ := hv
  have b0 := Cells.new w 29 #[.int .i64 op, .string s, .int .i64 n, .slice ao ks.length cap]
  have k0 : Kept w (w.alloc (.cells #[.int .i64 op, .string s, .int .i64 n, .slice ao ks.length cap] 29)) := Kept.alloc (Below.refl _ _) _
  have HV : Hid (∀ u, Kept (w.alloc (.cells #[.int .i64 op, .string s, .int .i64 n, .slice ao ks.length cap] 29)) u → NdV u base (.mk op s n ks) (.agg #[.int .i64 op, .string s, .int .i64 n, .slice ao ks.length cap])) := fun u hu => (hvN.kept k0).kept hu
  have HB : Hid (∀ u, Kept (w.alloc (.cells #[.int .i64 op, .string s, .int .i64 n, .slice ao ks.length cap] 29)) u → u.cell? ⟨w.heap.size, 0, none⟩ = some (.int .i64 op) ∧ u.cell? ⟨w.heap.size, 1, none⟩ = some (.string s) ∧ u.cell? ⟨w.heap.size, 2, none⟩ = some (.int .i64 n) ∧ u.cell? ⟨w.heap.size, 3, none⟩ = some (.slice ao ks.length cap)) := fun u hu => ⟨(b0.kept hu).cell 0, (b0.kept hu).cell 1, (b0.kept hu).cell 2, (b0.kept hu).cell 3⟩
  clear hks hvN b0
  obtain ⟨T, hT⟩ : ∃ T, Nd.mk op s n ks = T := ⟨_, rfl⟩
  have hop : T.op = op := by rw [← hT]; rfl
  rw [hT] at HV hb hsz
  rw [hT]
  clear hT
  have HD : Hid (∀ u, Kept (w.alloc (.cells #[.int .i64 op, .string s, .int .i64 n, .slice ao ks.length cap] 29)) u → Calls Tryz.prog 22 #[.agg #[.int .i64 op, .string s, .int .i64 n, .slice ao ks.length cap]] u fun e w' => e = .returned (.int .i64 (T.deep : Nat)) ∧ Kept u w') := fun u hu => spec_Deep_ok _ T (Nat.le_refl _) u base _ (HV.out u hu) (by omega)
  have HS : Hid (∀ u, Kept (w.alloc (.cells #[.int .i64 op, .string s, .int .i64 n, .slice ao ks.length cap] 29)) u → Calls Tryz.prog 23 #[.agg #[.int .i64 op, .string s, .int .i64 n, .slice ao ks.length cap]] u fun e w' => e = .returned (.int .i64 (T.size : Nat)) ∧ Kept u w') := fun u hu => spec_Size_ok _ T (Nat.le_refl _) u base _ (HV.out u hu) (by omega)
  have HO : Hid (∀ u, Kept (w.alloc (.cells #[.int .i64 op, .string s, .int .i64 n, .slice ao ks.length cap] 29)) u → Calls Tryz.prog 24 #[.agg #[.int .i64 op, .string s, .int .i64 n, .slice ao ks.length cap]] u fun e w' => e = .returned (.bool (okT T)) ∧ Kept u w') := fun u hu => l13Ok_ok _ T (Nat.le_refl _) hb u base _ (HV.out u hu)
  have HR : Hid (nodeR T = (decide (op = 1) && (decide (T.deep ≤ 20) && (decide (T.size ≤ 200) && okT T)))) := by rw [Hid, nodeR, hop]
  obtain ⟨x, hx⟩ : ∃ x, okT T = x := ⟨_, rfl⟩
  rw [hx] at HO HR
  obtain ⟨D, hD⟩ : ∃ D, T.deep = D := ⟨_, rfl⟩
  obtain ⟨Z, hZ⟩ : ∃ D, T.size = D := ⟨_, rfl⟩
  rw [hD] at HD HR
  rw [hZ] at HS HR
  clear hx hD hZ hb hsz hop HV
  obtain ⟨c0, c1, c2, c3⟩ := HB.out _ (Below.refl _ _)
  by_cases h1 : op = 1
  · subst h1
    by_cases h2 : D ≤ 20
    · have q2 : decide (D ≤ 20) = true := by simpa using h2
      by_cases h3 : Z ≤ 200
      · have q3 : decide (Z ≤ 200) = true := by simpa using h3
        rw [q2, q3] at HR
        have q4 : ((D : Nat) : Int) ≤ 20 := by omega
        have q5 : ((Z : Nat) : Int) ≤ 200 := by omega
        clear h2 h3 q2 q3
        go_enter Tryz.func14, Tryz.ntmps14
        go_wp2_with (first
          | (have _tk := kz; go_at_call 24; refine (HO.out _ kz).mono ?_; rintro e w3 ⟨rfl, hk3⟩)
          | (have _tk := kd; go_at_call 23; refine (HS.out _ kd).mono ?_; rintro e w2 ⟨rfl, hk2⟩; have kz := kd.trans hk2; obtain ⟨c0, c1, c2, c3⟩ := HB.out _ kz)
          | (go_at_call 22; refine (HD.out _ (Below.refl _ _)).mono ?_; rintro e w1 ⟨rfl, kd⟩; obtain ⟨c0, c1, c2, c3⟩ := HB.out _ kd))
        go_ret
        exact ⟨by rw [HR.out]; rfl, k0.trans (kz.trans hk3)⟩
      · have q3 : decide (Z ≤ 200) = false := by simpa using h3
        rw [q2, q3] at HR
        have q4 : ((D : Nat) : Int) ≤ 20 := by omega
        have q5 : ¬ ((Z : Nat) : Int) ≤ 200 := by omega
        clear h2 h3 q2 q3
        go_enter Tryz.func14, Tryz.ntmps14
        go_wp2_with (first
          | (have _tk := kd; go_at_call 23; refine (HS.out _ kd).mono ?_; rintro e w2 ⟨rfl, hk2⟩; have kz := kd.trans hk2; obtain ⟨c0, c1, c2, c3⟩ := HB.out _ kz)
          | (go_at_call 22; refine (HD.out _ (Below.refl _ _)).mono ?_; rintro e w1 ⟨rfl, kd⟩; obtain ⟨c0, c1, c2, c3⟩ := HB.out _ kd))
        go_ret
        exact ⟨by rw [HR.out]; rfl, k0.trans kz⟩
    · have q2 : decide (D ≤ 20) = false := by simpa using h2
      rw [q2] at HR
      have q4 : ¬ ((D : Nat) : Int) ≤ 20 := by omega
      clear h2 q2
      go_enter Tryz.func14, Tryz.ntmps14
      go_wp2_with (first
        | (go_at_call 22; refine (HD.out _ (Below.refl _ _)).mono ?_; rintro e w1 ⟨rfl, kd⟩; obtain ⟨c0, c1, c2, c3⟩ := HB.out _ kd))
      go_ret
      exact ⟨by rw [HR.out]; rfl, k0.trans kd⟩
  · have q1 : (op == 1) = false := by simpa using h1
    rw [decide_eq_false h1] at HR
    clear h1
    go_enter Tryz.func14, Tryz.ntmps14
    go_wp2_with fail
    go_ret
    exact ⟨by rw [HR.out]; rfl, k0⟩
end Go.Proofs.YtlinbkgeahgkjaaGreatDoor
