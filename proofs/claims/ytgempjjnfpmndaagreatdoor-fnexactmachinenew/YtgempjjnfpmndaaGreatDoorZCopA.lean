/-
  Copies of codes and steps: slices.Clone of both (chapter 17).
-/
import Derived.Test.YtgempjjnfpmndaaGreatDoorZOwsA
import Derived.Test.YtgempjjnfpmndaaGreatDoorGrpUb
import Derived.Test.YtgempjjnfpmndaaGreatDoorGrqMx
namespace Go.Proofs.YtgempjjnfpmndaaGreatDoor
open Go.RowKit
set_option linter.unusedSimpArgs false
set_option linter.unusedVariables false
attribute [local go_sem] Plain.and7
/-- The cells from an address on. -/
def cellsL (W : World) (ad : Addr) (n : Nat) : List Value := (List.range n).map (fun i => (W.cell? (ad.add i)).getD undef)
theorem cellsL_len (W : World) (ad : Addr) (n : Nat) : (cellsL W ad n).length = n := by simp [cellsL]
theorem cellsL_at {W : World} {ad : Addr} {n i : Nat} (hi : i < n) : (cellsL W ad n)[i]? = some ((W.cell? (ad.add i)).getD undef) := by simp [cellsL, hi]
theorem cellsL_news {W W' : World} {ad : Addr} {n : Nat} (h : ∀ i, i < n → ∃ v, W.cell? (ad.add i) = some v) (hk : Kept W W') : ∀ (j : Nat) (u : Value), (cellsL W ad n)[j]? = some u → W'.cell? (ad.add j) = some u := by
  intro j u hu
  have hj : j < n := by
    have := (List.getElem?_eq_some_iff.1 hu).1
    simpa [cellsL] using this
  rw [cellsL_at hj] at hu
  injection hu with hu
  obtain ⟨v, hv⟩ := h j hj
  rw [hv] at hu
  simp at hu
  subst hu
  exact cellK hk hv
/-- A row of one's own that holds these cells. -/
theorem own_cells {W : World} {base : Nat} {e : TypeId} {size : Nat} {v : Value} {n : Nat} {xs : List Value} (h : W.ownsRow base e size v n xs) (hv : v ≠ .slice none 0 0) : ∃ g cap cur, v = .slice (some ⟨g, 0, none⟩) n cap ∧ base ≤ g ∧ Cells W g e cur ∧ n ≤ cap ∧ cur.size = cap * size ∧ ∀ (i : Nat) u, xs[i]? = some u → cur[i]? = some u := by
  obtain ⟨hl, h2⟩ := h
  rcases h2 with ⟨rfl, _⟩ | ⟨g, cap, cur, rfl, hb, hg, h1, _, h3, h4⟩
  · exact absurd rfl hv
  · refine ⟨g, cap, cur, rfl, hb, hg, h1, h3, fun i u hu => ?_⟩
    rw [← h4] at hu
    rw [List.getElem?_take] at hu
    split at hu
    · simpa using hu
    · cases hu
theorem run_eql_stps_nil (W : World) (a : Option Addr) (l c : Nat) : (binOp .eql 89 (.slice a l c) (.slice none 0 0)).run Tryz.prog W = .ok (.bool a.isNone) W := by
  simp [binOp, run_equal_slice_nil (P := Tryz.prog) W 89 131 a l c Tryz.underlying89]
attribute [local go_sem] run_eql_stps_nil
set_option maxHeartbeats 8000000 in
set_option maxRecDepth 100000 in
theorem cloneSt_ok (w : World) (ad : Addr) (cap n : Nat) (hI : ∀ i, i < n * 3 → ∃ v, w.cell? (ad.add i) = some v ∧ v.oneCell' = true) (hl : n ≤ 1048576) :
    Calls Tryz.prog 110 #[.slice (some ad) n cap] w fun e w' => ∃ g c cur, e = .returned (.slice (some ⟨g, 0, none⟩) n c) ∧ w.heap.size ≤ g ∧ Cells w' g 131 cur ∧ (∀ i, i < n * 3 → cur[i]? = w.cell? (ad.add i)) ∧ Kept w w' := by
  obtain ⟨i0, hi, hz0, hz1, hz2⟩ := info_parts infoStp
  have hrow : (w.alloc (.cells #[] 131)).ownsRow w.heap.size 131 3 (.slice (some ⟨w.heap.size, 0, none⟩) 0 0) 0 [] := ⟨rfl, .inr ⟨w.heap.size, 0, #[], rfl, Nat.le_refl _, heap_alloc_new w _, Nat.le_refl _, by unfold maxLen; omega, rfl, rfl⟩⟩
  have hcell := cellsL_news (W' := w.alloc (.cells #[] 131)) (fun i hi => by obtain ⟨v, hv, _⟩ := hI i hi; exact ⟨v, hv⟩) (Kept.alloc (Below.refl _ w) (.cells #[] 131))
  have hone : ∀ u ∈ cellsL w ad (n * 3), u.oneCell' = true := by
    intro u hu
    obtain ⟨i, hi, e⟩ := List.mem_map.1 hu
    obtain ⟨v, hv, ho⟩ := hI i (by simpa using hi)
    rw [hv] at e
    simp at e
    subst e
    exact ho
  have HI : Hid _ := hI
  clear hI
  go_enter Tryz.func110, Tryz.ntmps110
  go_wp2_with (at_builtin; refine wpList_append_own _ rfl _ _ 89 rfl w.heap.size 131 i0 (.agg #[.int .i64 0, .int .i64 0, .int .i64 0]) 3 24 Tryz.underlying89 hi hz0 hz1 hz2 rfl (by decide) _ _ _ rfl hrow ad n cap (cellsL w ad (n * 3)) rfl (cellsL_len _ _ _) hcell hone (by unfold maxLen; omega) (by omega) (by simp) ?_; intro v' w5 hown' hgrow hnil)
  go_ret
  obtain ⟨g, c, cur, rfl, hb, hC, _, _, hcur⟩ := own_cells hown' (fun e => by have := (hnil.1 e).1; cases this)
  refine ⟨g, c, cur, by simp, hb, hC, fun i hi' => ?_, (Kept.alloc (Below.refl _ w) (.cells #[] 131)).grownRow hgrow (fun j ej => (hrow.lt j ej).1)⟩
  obtain ⟨v, hv, _⟩ := HI.out i hi'
  rw [hv]
  refine hcur i v ?_
  rw [List.nil_append, cellsL_at hi', hv]
  rfl
theorem run_eql_cods_nil (W : World) (a : Option Addr) (l c : Nat) : (binOp .eql 36 (.slice a l c) (.slice none 0 0)).run Tryz.prog W = .ok (.bool a.isNone) W := by
  simp [binOp, run_equal_slice_nil (P := Tryz.prog) W 36 91 a l c Tryz.underlying36]
attribute [local go_sem] run_eql_cods_nil
set_option maxHeartbeats 8000000 in
set_option maxRecDepth 100000 in
theorem cloneCd_ok (w : World) (ad : Addr) (cap n : Nat) (hI : ∀ i, i < n * 3 → ∃ v, w.cell? (ad.add i) = some v ∧ v.oneCell' = true) (hl : n ≤ 1048576) :
    Calls Tryz.prog 108 #[.slice (some ad) n cap] w fun e w' => ∃ g c cur, e = .returned (.slice (some ⟨g, 0, none⟩) n c) ∧ w.heap.size ≤ g ∧ Cells w' g 91 cur ∧ (∀ i, i < n * 3 → cur[i]? = w.cell? (ad.add i)) ∧ Kept w w' := by
  obtain ⟨i0, hi, hz0, hz1, hz2⟩ := info_parts infoCod
  have hrow : (w.alloc (.cells #[] 91)).ownsRow w.heap.size 91 3 (.slice (some ⟨w.heap.size, 0, none⟩) 0 0) 0 [] := ⟨rfl, .inr ⟨w.heap.size, 0, #[], rfl, Nat.le_refl _, heap_alloc_new w _, Nat.le_refl _, by unfold maxLen; omega, rfl, rfl⟩⟩
  have hcell := cellsL_news (W' := w.alloc (.cells #[] 91)) (fun i hi => by obtain ⟨v, hv, _⟩ := hI i hi; exact ⟨v, hv⟩) (Kept.alloc (Below.refl _ w) (.cells #[] 91))
  have hone : ∀ u ∈ cellsL w ad (n * 3), u.oneCell' = true := by
    intro u hu
    obtain ⟨i, hi, e⟩ := List.mem_map.1 hu
    obtain ⟨v, hv, ho⟩ := hI i (by simpa using hi)
    rw [hv] at e
    simp at e
    subst e
    exact ho
  have HI : Hid _ := hI
  clear hI
  go_enter Tryz.func108, Tryz.ntmps108
  go_wp2_with (at_builtin; refine wpList_append_own _ rfl _ _ 36 rfl w.heap.size 91 i0 (.agg #[.int .i64 0, .int .i64 0, .slice none 0 0]) 3 40 Tryz.underlying36 hi hz0 hz1 hz2 rfl (by decide) _ _ _ rfl hrow ad n cap (cellsL w ad (n * 3)) rfl (cellsL_len _ _ _) hcell hone (by unfold maxLen; omega) (by omega) (by simp) ?_; intro v' w5 hown' hgrow hnil)
  go_ret
  obtain ⟨g, c, cur, rfl, hb, hC, _, _, hcur⟩ := own_cells hown' (fun e => by have := (hnil.1 e).1; cases this)
  refine ⟨g, c, cur, by simp, hb, hC, fun i hi' => ?_, (Kept.alloc (Below.refl _ w) (.cells #[] 91)).grownRow hgrow (fun j ej => (hrow.lt j ej).1)⟩
  obtain ⟨v, hv, _⟩ := HI.out i hi'
  rw [hv]
  refine hcur i v ?_
  rw [List.nil_append, cellsL_at hi', hv]
  rfl
end Go.Proofs.YtgempjjnfpmndaaGreatDoor
