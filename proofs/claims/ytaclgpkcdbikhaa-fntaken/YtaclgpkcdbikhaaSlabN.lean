/-
  The contracts of SlabNew, the program's own and its model.
-/
import Derived.Test.YtaclgpkcdbikhaaSlabC
import Derived.Test.YtaclgpkcdbikhaaSlabL
import Derived.Test.YtaclgpkcdbikhaaSlabS
namespace Go.Proofs.Ytaclgpkcdbikhaa
open Go.RowKit

theorem hz_ext {xs ys : List Int} (h : xs.length = ys.length) (hj : ∀ j, j < xs.length → hz xs j = hz ys j) : xs = ys := by
  apply List.ext_getElem h
  intro i h1 h2
  have := hj i h1
  simpa [hz, List.getElem?_eq_getElem h1, List.getElem?_eq_getElem h2] using this
/-- One free block of n words. -/
def newL (n : Nat) : List Int := (List.replicate n 0).set 0 (8 * (n : Int))
theorem newL_len (n : Nat) : (newL n).length = n := by simp [newL]
theorem newL_lay {n : Nat} (hn : 1 ≤ n) : layL (List.replicate n 0) 0 n (8 * (n : Int) + ((0 : Nat) : Int)) = newL n := by
  apply hz_ext
  · simp [layL_len, newL_len]
  · intro j hj
    rw [layL_len, List.length_replicate] at hj
    rw [hz_layL (by simp) hn, newL, hz_set (by simp; omega)]
    by_cases e : j = 0
    · simp [e]
    · rw [if_neg e, if_neg e, if_pos (by omega)]
      simp [hz, hj]

set_option maxHeartbeats 1000000 in
theorem impl_SlabNew_no (w : World) (n : Int) (h : n < 2 ∨ 2000 < n) :
    Calls Try.prog 23 #[.int .i64 n] w fun e w' => e = .returned (.tuple #[.agg #[.slice none 0 0], .bool false]) ∧ Kept w w' := by
  rcases (show n < 2 ∨ (2 ≤ n ∧ 2000 < n) by omega) with h1 | ⟨h1, h2⟩
  · go_enter Try.func23, Try.ntmps23
    clear h
    go_wp2
    refine bodyPost_ret (v := .tuple #[.agg #[.slice none 0 0], .bool false]) (by simp [results, Try.results23, go_sem]) rfl ⟨rfl, Kept.alloc (Below.refl _ _) _⟩
  · go_enter Try.func23, Try.ntmps23
    clear h
    go_wp2
    refine bodyPost_ret (v := .tuple #[.agg #[.slice none 0 0], .bool false]) (by simp [results, Try.results23, go_sem]) rfl ⟨rfl, Kept.alloc (Below.refl _ _) _⟩
set_option maxHeartbeats 1000000 in
set_option maxRecDepth 100000 in
theorem impl_SlabNew_yes (w : World) (n : Nat) (h1 : 2 ≤ n) (h2 : n ≤ 2000) :
    Calls Try.prog 23 #[.int .i64 n] w fun e w' => ∃ g, e = .returned (.tuple #[.agg #[.slice (some ⟨g, 0, none⟩) n n], .bool true]) ∧ w.heap.size ≤ g ∧ Row w' g (newL n) ∧ Kept w w' := by
  obtain ⟨i0, hi, hz0, hz1, hz2⟩ := info_parts infoI
  have b0 := Cells.new w 26 #[.slice none 0 0]
  have k0 : Kept w (w.alloc (.cells #[.slice none 0 0] 26)) := Kept.alloc (Below.refl _ _) _
  go_enter Try.func23, Try.ntmps23
  go_wp2_with (first | (at_make; refine wpList_make_full _ rfl _ _ 24 rfl (w.heap.size + 1) 3 i0 (.int .i64 0) 1 Try.underlying24 hi hz0 hz1 .i64 .i64 _ _ n rfl rfl rfl rfl (by rw [hz2]; omega) (by unfold maxLen; omega) (by simp) ?_; intro w1 hown hgrow) | fail)
  rw [madeInts] at hown
  have hR := (Row.of_owns hown (by simp)).1
  have hK : Kept (w.alloc (.cells #[.slice none 0 0] 26)) w1 := (Below.refl _ _).grown hgrow (Nat.le_refl _) (by simp)
  simp only [World.size_alloc] at hR ⊢
  clear hown hgrow
  go_wp2_with fail
  have hlay := layBlock_ok w1 (w.heap.size + 1) n (List.replicate n 0) 0 n 0 hR (by simp) (by omega) (by omega) (by simp) (by simp; omega)
  rw [newL_lay (by omega)] at hlay
  simp only [List.length_replicate] at hlay
  refine hlay.mono ?_
  rintro e w2 ⟨⟨v, rfl⟩, hR2, hG2⟩
  have b2 := (b0.kept hK).grown hG2 (by intro e; simp at e)
  have c2 := b2.cell 0
  have f2 := b2.frozen 0
  have k2 := (k0.trans hK).grownRow hG2 (by intro k e; cases e; omega)
  have q2 := (b2.set1 (.slice (some ⟨w.heap.size + 1, 0, none⟩) n n)).cell 0
  go_wp2
  refine bodyPost_ret (v := .tuple #[.agg #[.slice (some ⟨w.heap.size + 1, 0, none⟩) n n], .bool true]) (by simp [results, Try.results23, go_sem, q2]) rfl ⟨_, rfl, by omega, hR2.other (by simp) _, k2.set (by simp) _⟩
set_option maxHeartbeats 1000000 in
theorem spec_SlabNew_no (w : World) (n : Int) (h : n < 2 ∨ 2000 < n) :
    Calls Try.prog 24 #[.int .i64 n] w fun e w' => e = .returned (.tuple #[.agg #[.slice none 0 0], .bool false]) ∧ Kept w w' := by
  go_enter Try.func24, Try.ntmps24
  go_wp2_with (go_at_call 40; refine (l1In_no _ _ _ _ h).mono ?_; rintro e wx ⟨rfl, rfl⟩)
  refine bodyPost_ret (v := .tuple #[.agg #[.slice none 0 0], .bool false]) (by simp [results, Try.results24, go_sem]) rfl ⟨rfl, Kept.alloc (Below.refl _ _) _⟩
set_option maxHeartbeats 1000000 in
set_option maxRecDepth 100000 in
theorem spec_SlabNew_yes (w : World) (n : Nat) (h1 : 2 ≤ n) (h2 : n ≤ 2000) :
    Calls Try.prog 24 #[.int .i64 n] w fun e w' => ∃ g, e = .returned (.tuple #[.agg #[.slice (some ⟨g, 0, none⟩) n n], .bool true]) ∧ w.heap.size ≤ g ∧ Row w' g (newL n) ∧ Kept w w' ∧ Sz w' g n := by
  obtain ⟨i0, hi, hz0, hz1, hz2⟩ := info_parts infoI
  have b0 := Cells.new w 26 #[.slice none 0 0]
  have k0 : Kept w (w.alloc (.cells #[.slice none 0 0] 26)) := Kept.alloc (Below.refl _ _) _
  go_enter Try.func24, Try.ntmps24
  go_wp2_with (first | (go_at_call 40; refine (l1In_yes _ _ _ _ (by omega) (by omega)).mono ?_; rintro e wx ⟨rfl, rfl⟩) | (at_make; refine wpList_make_full _ rfl _ _ 24 rfl (w.heap.size + 1) 3 i0 (.int .i64 0) 1 Try.underlying24 hi hz0 hz1 .i64 .i64 _ _ n rfl rfl rfl rfl (by rw [hz2]; omega) (by unfold maxLen; omega) (by simp) ?_; intro w1 hown hgrow; rw [madeInts] at hown; have hR := (Row.of_owns hown (by simp)).1; have sz1 := Sz.of_owns hown; have hK : Kept (w.alloc (.cells #[.slice none 0 0] 26)) w1 := (Below.refl _ _).grown hgrow (Nat.le_refl _) (by simp); simp only [World.size_alloc] at hR sz1; have b1 := b0.kept hK; have cb := b1.cell 0; have fb := b1.frozen 0; have lb := b1.lt; have hcg := hR.cell (j := 0) (by simp; omega); have hfg := hR.frozen 0; have lg := hR.lt))
  have q := (((b1.other (p := ⟨w.heap.size + 1, 0, none⟩) (by simp) (.int .i64 (8 * (n : Int)))).set1 (.slice (some ⟨w.heap.size + 1, 0, none⟩) n n)).alloc (.cells #[.slice (some ⟨w.heap.size + 1, 0, none⟩) n n] 26)).cell 0
  refine bodyPost_ret (v := .tuple #[.agg #[.slice (some ⟨w.heap.size + 1, 0, none⟩) n n], .bool true]) (by simp [results, Try.results24, go_sem, q]) rfl ⟨_, rfl, by omega, ((hR.set (k := 0) (by simp; omega) ⟨by omega, by omega⟩).other (by simp) _).kept (Kept.alloc (Below.refl _ _) _), (((k0.trans hK).set (by simp) _).set (by simp) _).alloc _, ((sz1.set _ _ _).set _ _ _).kept (Kept.alloc (Below.refl _ _) _)⟩
theorem markSlab_nil (w : World) (ao : Option Addr) (cap : Nat) :
    Calls Try.prog 28 #[.agg #[.slice ao 0 cap], .int .i64 1] w fun e w' => e = .returned (.int .i64 1) ∧ Kept w w' := by
  go_enter Try.func28, Try.ntmps28
  go_wp2_with (go_at_call 56; refine (markNil_ok _ ao cap).mono ?_; rintro e w1 ⟨rfl, rfl⟩)
  go_ret
  exact ⟨rfl, Kept.alloc (Below.refl _ _) _⟩
theorem ints_nil (w : World) (ao : Option Addr) : Ints w ao [] := ⟨by simp, .inl rfl⟩
end Go.Proofs.Ytaclgpkcdbikhaa
