/-
  The contracts of what FnGiven draws; facts on lists that it asks for.
-/
import Derived.Test.YtaclgpkcdbikhaaSlabA
import Derived.Test.YtaclgpkcdbikhaaSlabAt
namespace Go.Proofs.Ytaclgpkcdbikhaa
open Go.RowKit

theorem field_words (v : Value) (w : World) : Sem.run Try.prog (Instr.field 26 (.agg #[v]) 0) w = .ok v w := by kernel_rfl
theorem kindAt_mem {zs : List Int} (hok : slabOk zs = true) {b : BkOf zs.length} (hb : b ∈ blocks zs) : kindAt zs ((b.1.at' : Nat) : Int) = ((b.1.kind : Nat) : Int) := by simp [kindAt, atB_mem hok hb]
theorem sizeAt_mem {zs : List Int} (hok : slabOk zs = true) {b : BkOf zs.length} (hb : b ∈ blocks zs) : sizeAt zs ((b.1.at' : Nat) : Int) = ((b.1.size : Nat) : Int) := by simp [sizeAt, atB_mem hok hb]
theorem kindAt_raw {zs : List Int} (hok : slabOk zs = true) {x : Bk} (hx : x ∈ raw (blocks zs)) : kindAt zs ((x.at' : Nat) : Int) = ((x.kind : Nat) : Int) ∧ sizeAt zs ((x.at' : Nat) : Int) = ((x.size : Nat) : Int) := by
  obtain ⟨b, hb, rfl⟩ := List.mem_map.1 hx
  exact ⟨kindAt_mem hok hb, sizeAt_mem hok hb⟩
/-- How many words the first blocks have together. -/
def sumB {L : Nat} : List (BkOf L) → Nat
  | [] => 0
  | b :: bs => b.1.size + sumB bs
theorem sumB_append {L : Nat} (xs ys : List (BkOf L)) : sumB (xs ++ ys) = sumB xs + sumB ys := by
  induction xs with
  | nil => simp [sumB]
  | cons x xs ih => simp only [List.cons_append, sumB, ih]; omega
theorem sumB_blks (zs : List Int) (k : Nat) : k + sumB (blks zs k) = stop zs k :=
  blks_ind zs (P := fun k => k + sumB (blks zs k) = stop zs k) (fun k h ih => by rw [blks_yes h, stop_yes h]; simp only [sumB]; omega) (fun k h => by rw [blks_no h, stop_no h]; rfl) k
theorem sumB_all {zs : List Int} (hok : slabOk zs = true) : sumB (blocks zs) = zs.length := by
  have := sumB_blks zs 0
  rw [(slabOk_iff.1 hok).2] at this
  unfold blocks
  omega
theorem sumB_take {zs : List Int} {k : Nat} (hk : k < (blocks zs).length) : sumB ((blocks zs).take (k + 1)) = sumB ((blocks zs).take k) + (blocks zs)[k].1.size := by
  rw [List.take_succ_eq_append_getElem hk, sumB_append]; simp [sumB]
theorem sumB_le {zs : List Int} (hok : slabOk zs = true) (k : Nat) : sumB ((blocks zs).take k) ≤ zs.length := by
  have h := sumB_append ((blocks zs).take k) ((blocks zs).drop k)
  rw [List.take_append_drop, sumB_all hok] at h
  omega

set_option maxHeartbeats 8000000 in
set_option maxRecDepth 100000 in
theorem l2DrawAt_ok (c : Nat) (a : Option Addr) (len cap : Nat) (z : Nat → Int) (w : World) (h : Cur w c a len cap z) (ao : Option Addr) (cp : Nat) (zs : List Int) (hI : Ints w ao zs) (hl : zs.length ≤ 1000) :
    Calls Try.prog 64 #[.pointer (some ⟨c, 0, none⟩), .agg #[.slice ao zs.length cp]] w fun e w' => ∃ x : Int, e = .returned (.int .i64 x) ∧ -9223372036854775808 ≤ x ∧ x ≤ 9223372036854775807 ∧ Keeps c w w' ∧ Cur w' c a len cap z := by
  have hL : zs.length * 8 ≤ 140737488351232 := by omega
  have hc0 := h.lt
  have k0 : Kept w (w.alloc (.cells #[.slice ao zs.length cp] 26)) := Kept.alloc (Below.refl _ _) _
  have hB := spec_Blocks_ok _ ao cp zs (hI.kept k0) hL
  have hC0 := h.kept k0
  have hcount := blocks_count zs
  have hpl : (places zs).length ≤ 1000 := by
    unfold places
    split
    · simp; omega
    · simp
  clear hI
  go_enter Try.func64, Try.ntmps64
  go_wp2_with fail
  refine hB.mono ?_
  rintro e w1 ⟨v, rfl, ho, hk1⟩
  have hC1 := hC0.kept hk1
  have K1 : Keeps c w w1 := (k0.trans hk1).keeps c
  rcases ho.cases with ⟨rfl, he⟩ | ⟨g, lc, rfl, hg, _, _, hR⟩
  · go_wp2_with fail
    have hP := l1PickInt_at c a len cap z atNs 5 rfl (by omega) (by omega) _ 3 rfl _ hC1
    refine hP.mono ?_
    rintro e w2 ⟨x, rfl, hx, hk2, hC2⟩
    have hxb := atNs_in x hx
    go_wp2
    go_ret
    exact ⟨x, rfl, by omega, by omega, K1.trans hk2, hC2⟩
  · simp only [World.size_alloc] at hg
    obtain ⟨n, hn⟩ : ∃ n, (places zs).length = n := ⟨_, rfl⟩
    have hbd := hR.ints
    rw [hn] at hpl ⊢
    by_cases h0 : n = 0
    · subst h0
      have e0 : ((0 : Nat) : Int) = 0 := rfl
      go_wp2_with fail
      have hP := l1PickInt_at c a len cap z atNs 5 rfl (by omega) (by omega) _ 3 rfl _ hC1
      refine hP.mono ?_
      rintro e w2 ⟨x, rfl, hx, hk2, hC2⟩
      have hxb := atNs_in x hx
      go_wp2
      go_ret
      exact ⟨x, rfl, by omega, by omega, K1.trans hk2, hC2⟩
    · have t0 : ((n : Int) == 0) = false := by simp; omega
      go_wp2_with fail
      refine (l1Once_ok c a len cap z 5 (by omega) _ hC1).mono ?_
      rintro e w2 ⟨x, rfl, hk2, hC2⟩
      have K2 := K1.trans hk2
      cases x with
      | true =>
        go_wp2_with fail
        have hP := l1PickInt_at c a len cap z atNs 5 rfl (by omega) (by omega) _ 3 rfl _ hC2
        refine hP.mono ?_
        rintro e w3 ⟨x, rfl, hx, hk3, hC3⟩
        have hxb := atNs_in x hx
        go_wp2
        go_ret
        exact ⟨x, rfl, by omega, by omega, K2.trans hk3, hC3⟩
      | false =>
        have R2 := hR.keeps hk2 (by omega)
        go_wp2_with fail
        refine (l1Below_ok c a len cap z (n : Int) (by omega) _ hC2).mono ?_
        rintro e w3 ⟨x, rfl, hx0, hx1, hk3, hC3⟩
        have hx2 : x < (n : Int) := hx1 (by omega)
        obtain ⟨j, rfl⟩ : ∃ j : Nat, x = j := ⟨x.toNat, by omega⟩
        have R3 := R2.keeps hk3 (by omega)
        have cj := R3.cell (j := j) (by omega)
        have hb := R3.ints.bd j
        clear hx1
        go_wp2
        go_ret
        exact ⟨_, rfl, hb.1, hb.2, K2.trans hk3, hC3⟩
set_option maxHeartbeats 8000000 in
set_option maxRecDepth 100000 in
theorem l2DrawBoth_ok (a : Option Addr) (len cap : Nat) (z : Nat → Int) (w : World) (h : Src w.heap.size w a len z) :
    Calls Try.prog 49 #[.slice a len cap] w fun e w' => ∃ v zs x, e = .returned (.tuple #[.agg #[v], .int .i64 x]) ∧ OwnI w' w.heap.size v zs ∧ zs.length ≤ 91 ∧ -9223372036854775808 ≤ x ∧ x ≤ 9223372036854775807 ∧ Kept w w' := by
  have b0 := Cells.new w 26 #[.slice none 0 0]
  have k0 : Kept w (w.alloc (.cells #[.slice none 0 0] 26)) := Kept.alloc (Below.refl _ _) _
  have h0 : Src (w.alloc (.cells #[.slice none 0 0] 26)).heap.size (w.alloc (.cells #[.slice none 0 0] 26)) a len z := h.below k0
  go_enter Try.func49, Try.ntmps49
  go_wp2_with fail
  refine (l1New_ok a len cap z _ h0).mono ?_
  rintro e w1 ⟨c, rfl, hc1, hk1, hC1⟩
  have b1 := b0.kept hk1
  have k1 := k0.trans hk1
  simp only [World.size_alloc] at hc1
  clear h0 hk1 b0 k0
  go_wp2_with fail
  refine (l2Draw_ok c a len cap z _ hC1).mono ?_
  rintro e w2 ⟨v, zs, rfl, hO, hl, hk2, hC2⟩
  have hO2 := hO
  have hcb := hC1.lt
  have hb1 := k1.size
  have b2 := b1.keeps hk2 (by omega)
  have k2 : Kept w w2 := Below.trans k1 (hk2.below (by omega) k1.size)
  obtain ⟨ao, cp, rfl, _⟩ := hO
  have ka : Kept w2 (w2.alloc (.cells #[.slice ao zs.length cp] 26)) := Kept.alloc (Below.refl _ _) _
  have x4 := Cells.new w2 26 #[.slice ao zs.length cp]
  have hC5 := hC2.kept ka
  have b5 := b2.kept ka
  have hO5 := hO2.kept ka
  have k5 := k2.trans ka
  have hcl := hC2.lt
  have lx := x4.lt
  obtain ⟨B, hB⟩ : ∃ B, w2.heap.size = B := ⟨_, rfl⟩
  go_wp2_with fail
  obtain ⟨w4, hw4⟩ : ∃ w4, w2.alloc (.cells #[.slice ao zs.length cp] 26) = w4 := ⟨_, rfl⟩
  rw [hw4] at x4 hC5 b5 hO5 k5 lx
  rw [hB] at x4 hcl lx
  rw [hw4]
  clear hB hw4 ka hk2 hC1 hC2 hO2 b1 b2 k1 k2
  have Cd := hC5.kept (Below.refl _ w4).drew
  have xd := x4.kept (Below.refl _ w4).drew
  have bd := b5.kept (Below.refl _ w4).drew
  have Od := hO5.kept (Below.refl _ w4).drew
  have kd : Kept w w4.drew := k5.drew
  have q4 := x4.cell 0
  have hA := l2DrawAt_ok c a len cap z _ Cd ao cp zs (by obtain ⟨_, _, e, hI, _⟩ := Od; cases e; exact hI) (by omega)
  go_region_with (first | (go_at_call 64; refine hA.mono ?_; rintro e w5 ⟨x, rfl, hx0, hx1, hk6, hC6⟩; have x6 := xd.keeps hk6 (by omega); have q6 := x6.cell 0; have b6 := bd.keeps hk6 (by omega); have e6 := b6.cell 0; have f6 := b6.frozen 0))
  all_goals (
    have O6 := Od.keeps hk6 hcb
    have k6 : Kept w w5 := Below.trans kd (hk6.below (by omega) kd.size)
    have q := (b6.set1 (.slice ao zs.length cp)).cell 0
    go_wp2_with fail
    refine bodyPost_ret (v := .tuple #[.agg #[.slice ao zs.length cp], .int .i64 x]) (by simp [results, Try.results49, go_sem, q]) rfl ⟨_, zs, _, rfl, ?_, hl, hx0, hx1, k6.set (by simp) _⟩
    exact (O6.other b6 (by intro j n; cases j <;> simp) _).base hb1)
set_option maxHeartbeats 4000000 in
theorem DrawGive_ok (a : Option Addr) (len cap : Nat) (z : Nat → Int) (w : World) (h : Src w.heap.size w a len z) :
    Calls Try.prog 17 #[.slice a len cap] w fun e w' => ∃ v zs x, e = .returned (.tuple #[.agg #[v], .int .i64 x]) ∧ OwnI w' w.heap.size v zs ∧ zs.length ≤ 91 ∧ -9223372036854775808 ≤ x ∧ x ≤ 9223372036854775807 ∧ Kept w w' := by
  have b0 := Cells.new w 26 #[.slice none 0 0]
  have k0 : Kept w (w.alloc (.cells #[.slice none 0 0] 26)) := Kept.alloc (Below.refl _ _) _
  have hD := l2DrawBoth_ok a len cap z _ (h.below k0)
  go_enter Try.func17, Try.ntmps17
  go_wp2_with fail
  refine hD.mono ?_
  rintro e w1 ⟨v, zs, x, rfl, hO, hl, hx0, hx1, hk1⟩
  have b1 := b0.kept hk1
  have k1 := k0.trans hk1
  have c1 := b1.cell 0
  have f1 := b1.frozen 0
  have l1 := b1.lt
  have hO1 := hO.base (base' := w.heap.size) (by simp)
  obtain ⟨ao, cp, rfl, _⟩ := hO
  go_wp2_with fail
  have q := ((b1.set1 (.slice ao zs.length cp)).alloc (.cells #[.slice ao zs.length cp] 26)).cell 0
  refine bodyPost_ret (v := .tuple #[.agg #[.slice ao zs.length cp], .int .i64 x]) (by simp [results, Try.results17, go_sem, q]) rfl ⟨_, zs, _, rfl, ?_, hl, hx0, hx1, (k1.set (by simp) _).alloc _⟩
  exact (hO1.other b1 (by intro j n; cases j <;> simp) _).kept (Kept.alloc (Below.refl _ _) _)
theorem DrawSlabNew_ok (a : Option Addr) (len cap : Nat) (z : Nat → Int) (w : World) (h : Src w.heap.size w a len z) :
    Calls Try.prog 22 #[.slice a len cap] w fun e w' => ∃ x, e = .returned (.int .i64 x) ∧ -1 ≤ x ∧ x ≤ 2001 ∧ Kept w w' := by
  go_enter Try.func22, Try.ntmps22
  go_wp2_with fail
  refine (l1New_ok a len cap z _ h).mono ?_
  rintro e w1 ⟨c, rfl, hc1, hk1, hC1⟩
  go_wp2_with fail
  have hP := l1PickInt_at c a len cap z newNs 8 rfl (by omega) (by omega) _ 3 rfl _ hC1
  refine hP.mono ?_
  rintro e w2 ⟨x, rfl, hx, hk2, hC2⟩
  have hxb := newNs_in x hx
  go_wp2
  go_ret
  exact ⟨x, rfl, hxb.1, hxb.2, Below.trans hk1 (hk2.below hc1 hk1.size)⟩
end Go.Proofs.Ytaclgpkcdbikhaa
