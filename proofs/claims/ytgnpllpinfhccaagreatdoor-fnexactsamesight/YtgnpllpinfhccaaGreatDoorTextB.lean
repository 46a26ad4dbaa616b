/-
  The contracts of the program's readText and TextOf.
-/
import Derived.Test.YtgnpllpinfhccaaGreatDoorTextA
import Derived.Test.YtgnpllpinfhccaaGreatDoorSeq
namespace Go.Proofs.YtgnpllpinfhccaaGreatDoor
open Go.RowKit
attribute [local go_sem] Plain.and7

theorem infoB7 : (Tryz.prog.info? 5).map (fun i => (i.zero, i.size, i.bytes)) = some (some (.int .u8 0), 1, 1) := by kernel_rfl
theorem own_fullB {W : World} {base n g : Nat} {xs : List Value} (h : W.ownsRow base 5 1 (.slice (some ⟨g, 0, none⟩) n n) n xs) : Cells W g 5 xs.toArray := by
  rcases h.2 with ⟨e, _⟩ | ⟨g', cap, cur, e, _, hc, _, _, hs, ht⟩
  · cases e
  · cases e
    have : cur.toList = xs := by rw [← ht, List.take_of_length_le (by simp; omega)]
    show W.heap[g]? = _
    rw [hc, ← this]
theorem madeBytes (n : Nat) : (madeCells (Value.int .u8 0).cells (n * 1)).toList = (List.replicate n (0 : Int)).map (Value.int .u8) := by
  apply List.ext_getElem
  · simp [madeCells]
  · intro i h1 h2
    simp [madeCells, Value.cells, Nat.mod_one]
/-- Bytes that are written so far, of n in all. -/
def mixB (zs : List Int) (f n k : Nat) : List Int := (List.range n).map (fun i => if i < k then hz zs (f + i) else 0)
theorem mixB_len (zs : List Int) (f n k : Nat) : (mixB zs f n k).length = n := by simp [mixB]
theorem mixB_zero (zs : List Int) (f n : Nat) : mixB zs f n 0 = List.replicate n 0 := by
  apply List.ext_getElem
  · simp [mixB]
  · intro i h1 h2; simp [mixB]
theorem mixB_all (zs : List Int) (f n : Nat) : mixB zs f n n = bytesL zs f n := by
  apply List.ext_getElem
  · simp [mixB, bytesL]
  · intro i h1 h2
    have : i < n := by simpa [mixB] using h1
    simp [mixB, bytesL, this]
theorem mixB_succ (zs : List Int) (f n k : Nat) : (mixB zs f n k).set k (hz zs (f + k)) = mixB zs f n (k + 1) := by
  apply List.ext_getElem
  · simp [mixB]
  · intro i h1 h2
    rw [List.getElem_set]
    simp only [mixB, List.getElem_map, List.getElem_range]
    by_cases h : k = i
    · subst h; simp
    · rw [if_neg h]
      by_cases hi : i < k
      · rw [if_pos hi, if_pos (by omega)]
      · rw [if_neg hi, if_neg (by omega)]
abbrev rowB (xs : List Int) : Array Value := (xs.map (Value.int .u8)).toArray
theorem rowB_cell {W : World} {g : Nat} {xs : List Int} (h : Cells W g 5 (rowB xs)) {j : Nat} (hj : j < xs.length) : W.cell? ⟨g, j, none⟩ = some (.int .u8 (xs.getD j 0)) := by
  rw [h.cell j]; simp [hj]
theorem rowB_set {W : World} {g : Nat} {xs : List Int} (h : Cells W g 5 (rowB xs)) (j : Nat) (v : Int) : Cells (W.setCell ⟨g, j, none⟩ (.int .u8 v)) g 5 (rowB (xs.set j v)) := by
  have := h.set j (.int .u8 v)
  simpa [rowB, List.map_set] using this
theorem conv_row {W : World} {g cap : Nat} {xs : List Int} (h : Cells W g 5 (rowB xs)) : (convert 22 9 (.slice (some ⟨g, 0, none⟩) xs.length cap)).run Tryz.prog W = .ok (.string (strOfNums xs)) W :=
  run_convert_bytes_arg W 22 5 Tryz.underlying22 Tryz.underlying5 g 0 xs.length cap xs rfl (fun j hj => by rw [Nat.zero_add]; exact rowB_cell h hj) 9 Tryz.underlying9

set_option maxHeartbeats 4000000 in
set_option maxRecDepth 100000 in
theorem readText_ok (w : World) (ao : Option Addr) (cap : Nat) (zs : List Int) (a n : Nat) (hI : Ints w ao zs) (hl : zs.length ≤ 1048576) (hn : hz zs (a + 1) = (n : Int)) (hbx : a + 2 + n ≤ zs.length) (hby : ∀ k, k < n → 0 ≤ hz zs (a + 2 + k) ∧ hz zs (a + 2 + k) ≤ 255) :
    Calls Tryz.prog 106 #[.slice ao zs.length cap, .int .i64 (a : Int)] w fun e w' => e = .returned (.string (strOfNums (bytesL zs (a + 2) n))) ∧ Kept w w' := by
  obtain ⟨i0, hi, hz0, hz1, hz2⟩ := info_parts infoB7
  obtain ⟨bb, off, rfl, hc⟩ := hI.at (k := 0) (by omega)
  have hbl : bb < w.heap.size := World.block_lt_of_cell? _ _ (hc 0 (by omega))
  have h1 : w.cell? ⟨bb, off + (a + 1), none⟩ = some (.int .i64 (n : Int)) := by rw [← hn]; exact hc (a + 1) (by omega)
  have hw : ∀ k, k < n → w.cell? ⟨bb, off + (a + 2 + k), none⟩ = some (.int .i64 (hz zs (a + 2 + k))) := fun k hk => hc (a + 2 + k) (by omega)
  have t1 : ((a : Int) + 1).toNat = a + 1 := by omega
  have p1 : (a : Int) + 1 < (zs.length : Int) := by omega
  clear hc hn hI
  go_enter Tryz.func106, Tryz.ntmps106
  go_wp2_with (at_make; refine wpList_make_full _ rfl _ _ 22 rfl w.heap.size 5 i0 (.int .u8 0) 1 Tryz.underlying22 hi hz0 hz1 .i64 .i64 _ _ n rfl rfl rfl rfl (by rw [hz2]; omega) (by unfold maxLen; omega) (by simp) ?_; intro w2 hown hgrow)
  rw [madeBytes, ← mixB_zero zs (a + 2)] at hown
  have hc2 : Cells w2 w.heap.size 5 (rowB (mixB zs (a + 2) n 0)) := own_fullB hown
  have hK2 : Kept w w2 := (Below.refl _ _).grown hgrow (Nat.le_refl _) (by simp)
  obtain ⟨g, hg⟩ : ∃ g, w.heap.size = g := ⟨_, rfl⟩
  have hgl : bb < g := by omega
  rw [hg] at hc2 ⊢
  clear hown hgrow h1 t1 p1
  go_wp2_with fail
  go_loopw [15] (fun i wr => ∃ k : Nat, i = .int .i64 k ∧ k ≤ n ∧ Cells wr g 5 (rowB (mixB zs (a + 2) n k)) ∧ Kept w wr) (fun i _ => n - (intOf i).toNat)
  case atStart => exact ⟨0, rfl, Nat.zero_le _, hc2, hK2⟩
  case round =>
    obtain ⟨k, rfl, hk, hrow, hK⟩ := hrel
    clear hc2 hK2
    have HK : Hid (Kept w wr) := hK
    by_cases hlt : k < n
    · have cw2 := (hK.cell (p := ⟨bb, off + (a + 2 + k), none⟩) hbl).trans (hw k hlt)
      have t2 : ((a : Int) + 2 + (k : Int)).toNat = a + 2 + k := by omega
      have p2 : (a : Int) + 2 + (k : Int) < (zs.length : Int) := by have := hbx; omega
      have p0 : (0 : Int) ≤ (a : Int) + 2 + (k : Int) := by omega
      have u8 := IntWalk.u8_in _ (hby k hlt)
      have g0 := (hby k hlt).1
      have g1 := (hby k hlt).2
      have cg := rowB_cell hrow (j := k) (by rw [mixB_len]; exact hlt)
      have fg := hrow.frozen k
      have HR2 : Hid _ := rowB_set hrow k (hz zs (a + 2 + k))
      have q1 : (k : Int) < (n : Int) := by omega
      clear hK hrow
      go_wp2_with fail
      go_roundw
      case rel => exact ⟨k + 1, by go_num, by omega, by rw [← mixB_succ]; exact HR2.out, HK.out.set (p := ⟨g, k, none⟩) (by simp; omega) _⟩
      case measure => simp [intOf]; omega
    · obtain rfl : n = k := by omega
      rw [mixB_all] at hrow
      have hcv := conv_row (cap := n) hrow
      rw [bytesL_len] at hcv
      clear hK hrow
      go_wp2
      go_ret
      exact ⟨rfl, HK.out⟩
end Go.Proofs.YtgnpllpinfhccaaGreatDoor
