/-
  The contract of the program's TextOf.
-/
import Derived.Test.YtdpgnbogbndipaaTextA
namespace Go.Proofs.Ytdpgnbogbndipaa
open Go.RowKit
attribute [local go_sem] Plain.and7

theorem own_fullB {W : World} {base n g : Nat} {xs : List Value} (h : W.ownsRow base 5 1 (.slice (some ⟨g, 0, none⟩) n n) n xs) : Cells W g 5 xs.toArray := by
  rcases h.2 with ⟨e, _⟩ | ⟨g', cap, cur, e, _, hc, _, _, hs, ht⟩
  · cases e
  · cases e
    have : cur.toList = xs := by rw [← ht, List.take_of_length_le (by simp; omega)]
    show W.heap[g]? = _
    rw [hc, ← this]
theorem madeBytes (n : Nat) : (madeCells (Value.int .u8 0).cells (n * 1)).toList = (List.replicate n (0 : Int)).map (Value.int .u8) := by
  apply List.ext_getElem
  · simp [madeCells]
  · intro i h1 h2
    simp [madeCells, Value.cells, Nat.mod_one]
/-- Bytes that are written so far, of n in all. -/
def mixB (zs : List Int) (f n k : Nat) : List Int := (List.range n).map (fun i => if i < k then hz zs (f + i) else 0)
theorem mixB_len (zs : List Int) (f n k : Nat) : (mixB zs f n k).length = n := by simp [mixB]
theorem mixB_zero (zs : List Int) (f n : Nat) : mixB zs f n 0 = List.replicate n 0 := by
  apply List.ext_getElem
  · simp [mixB]
  · intro i h1 h2; simp [mixB]
theorem mixB_all (zs : List Int) (f n : Nat) : mixB zs f n n = bytesL zs f n := by
  apply List.ext_getElem
  · simp [mixB, bytesL]
  · intro i h1 h2
    have : i < n := by simpa [mixB] using h1
    simp [mixB, bytesL, this]
theorem mixB_succ (zs : List Int) (f n k : Nat) : (mixB zs f n k).set k (hz zs (f + k)) = mixB zs f n (k + 1) := by
  apply List.ext_getElem
  · simp [mixB]
  · intro i h1 h2
    rw [List.getElem_set]
    simp only [mixB, List.getElem_map, List.getElem_range]
    by_cases h : k = i
    · subst h; simp
    · rw [if_neg h]
      by_cases hi : i < k
      · rw [if_pos hi, if_pos (by omega)]
      · rw [if_neg hi, if_neg (by omega)]
abbrev rowB (xs : List Int) : Array Value := (xs.map (Value.int .u8)).toArray
theorem rowB_cell {W : World} {g : Nat} {xs : List Int} (h : Cells W g 5 (rowB xs)) {j : Nat} (hj : j < xs.length) : W.cell? ⟨g, j, none⟩ = some (.int .u8 (xs.getD j 0)) := by
  rw [h.cell j]; simp [hj]
theorem rowB_set {W : World} {g : Nat} {xs : List Int} (h : Cells W g 5 (rowB xs)) (j : Nat) (v : Int) : Cells (W.setCell ⟨g, j, none⟩ (.int .u8 v)) g 5 (rowB (xs.set j v)) := by
  have := h.set j (.int .u8 v)
  simpa [rowB, List.map_set] using this
theorem conv_row {W : World} {g cap : Nat} {xs : List Int} (h : Cells W g 5 (rowB xs)) : (convert 63 9 (.slice (some ⟨g, 0, none⟩) xs.length cap)).run Try.prog W = .ok (.string (strOfNums xs)) W :=
  run_convert_bytes_arg W 63 5 Try.underlying63 Try.underlying5 g 0 xs.length cap xs rfl (fun j hj => by rw [Nat.zero_add]; exact rowB_cell h hj) 9 Try.underlying9

set_option maxHeartbeats 4000000 in
set_option maxRecDepth 100000 in
theorem impl_TextOf_ok (w : World) (ao : Option Addr) (cap : Nat) (zs : List Int) (v : Int) (hI : Ints w ao zs) (hl : zs.length ≤ 1048576) (hv0 : -9223372036854775808 ≤ v) (hv1 : v ≤ 9223372036854775807) :
    Calls Try.prog 27 #[.agg #[.slice ao zs.length cap], .int .i64 v] w fun e w' => e = .returned (.string (textOfR zs v)) ∧ Kept w w' := by
  obtain ⟨i0, hi, hz0, hz1, hz2⟩ := info_parts infoB
  have b0 := Cells.new w 27 #[.slice ao zs.length cap]
  have k0 : Kept w (w.alloc (.cells #[.slice ao zs.length cap] 27)) := Kept.alloc (Below.refl _ _) _
  have hLo := heapLayout_ok _ ao cap zs (hI.kept k0) hl
  cases hh : heapR zs with
  | false =>
    have HR : Hid (textOfR zs v = ⟨#[]⟩) := by simp [Hid, textOfR, hh]
    have hLo' := hLo.mono (R' := fun e w' => e = .returned (.tuple #[.slice none 0 0, .bool false]) ∧ Kept (w.alloc (.cells #[.slice ao zs.length cap] 27)) w') (fun e w' h => ⟨h.1 hh, h.2.2⟩)
    clear hh hI hLo
    go_enter Try.func27, Try.ntmps27
    go_wp2_with (go_at_call 37; refine hLo'.mono ?_; rintro e w1 ⟨rfl, hk1⟩)
    go_ret
    exact ⟨by rw [HR.out]; rfl, k0.trans hk1⟩
  | true =>
    have hLo' := hLo.mono (R' := fun e w' => ∃ lo lc, e = .returned (.tuple #[.slice lo zs.length lc, .bool true]) ∧ Ints w' lo (lyt zs) ∧ Kept (w.alloc (.cells #[.slice ao zs.length cap] 27)) w') (fun e w' h => by obtain ⟨lo, lc, h1, h2⟩ := h.2.1 hh; exact ⟨lo, lc, h1, h2, h.2.2⟩)
    clear hLo
    have hV := fun (u : World) (lo : Option Addr) (lc : Nat) (hu : Ints u lo (lyt zs)) => valueOk_ok u lo lc zs 7 v hu hv0 hv1
    rw [val7] at hV
    by_cases hg : v % 8 = 4 ∧ leadsR zs v 0 = true
    · obtain ⟨b, hb, e, hk, hm⟩ := leads_text hg.1 hg.2
      obtain ⟨n, hn, hns, hby⟩ := text_facts hh hm hk
      have hble := b.2.2.1
      have HR : Hid (textOfR zs v = strOfNums (bytesL zs (b.1.at' + 2) n)) := by
        show _ = _
        unfold textOfR textL
        rw [if_pos ⟨hg.1, hh, hg.2⟩, e]
        simp [hn]
      obtain ⟨a, ha⟩ : ∃ a : Nat, b.1.at' = a := ⟨_, rfl⟩
      rw [ha] at e HR hn hble hby
      have hV' : (decide (v % 8 = 4) && leadsR zs v 0) = true := by simp [hg.1, hg.2]
      rw [hV'] at hV
      obtain ⟨bb, off, rfl, hc⟩ := hI.at (k := 0) (by omega)
      have hbl : bb < w.heap.size := World.block_lt_of_cell? _ _ (hc 0 (by omega))
      have h1 : w.cell? ⟨bb, off + (a + 1), none⟩ = some (.int .i64 (n : Int)) := by rw [← hn]; exact hc (a + 1) (by omega)
      have hw : ∀ k, k < n → w.cell? ⟨bb, off + (a + 2 + k), none⟩ = some (.int .i64 (hz zs (a + 2 + k))) := fun k hk => hc (a + 2 + k) (by omega)
      have t1 : ((a : Int) + 1).toNat = a + 1 := by omega
      have p1 : (a : Int) + 1 < (zs.length : Int) := by omega
      have hN := fun (u : World) => impl_Num_ok v u hv0 hv1
      rw [e] at hN
      have hbx : a + 2 + n ≤ zs.length := by omega
      clear hc hn hI hh hb hk hm ha hg e hV' hns hble
      go_enter Try.func27, Try.ntmps27
      go_wp2_with (first | (go_at_call 37; refine hLo'.mono ?_; rintro e w1 ⟨lo, lc, rfl, hLy, hk1⟩; have hV1 := hV w1 lo lc hLy; have c1 := (b0.kept hk1).cell 0; have cw1 := ((k0.trans hk1).cell (p := ⟨bb, off + (a + 1), none⟩) hbl).trans h1; clear hLy) | (go_at_call 39; refine hV1.mono ?_; rintro e wx ⟨rfl, rfl⟩) | (go_at_call 53; refine (hN _).mono ?_; rintro e wx ⟨rfl, rfl⟩) | (at_make; refine wpList_make_full _ rfl _ _ 63 rfl w1.heap.size 5 i0 (.int .u8 0) 1 Try.underlying63 hi hz0 hz1 .i64 .i64 _ _ n rfl rfl rfl rfl (by rw [hz2]; omega) (by unfold maxLen; omega) (by simp) ?_; intro w2 hown hgrow))
      rw [madeBytes, ← mixB_zero zs (a + 2)] at hown
      have hc2 : Cells w2 w1.heap.size 5 (rowB (mixB zs (a + 2) n 0)) := own_fullB hown
      have hK2 : Kept w1 w2 := (Below.refl _ _).grown hgrow (Nat.le_refl _) (by simp)
      have b2 := (b0.kept hk1).kept hK2
      have k2 := (k0.trans hk1).trans hK2
      have hg1 := (k0.trans hk1).size
      have hlt1 := (b0.kept hk1).lt
      obtain ⟨g, hg⟩ : ∃ g, w1.heap.size = g := ⟨_, rfl⟩
      rw [hg] at hc2 hg1 hlt1 ⊢
      clear hown hgrow hK2 c1 cw1 hg h1 hV1 hV hN hLo' b0 k0 hk1 t1 p1
      go_wp2_with fail
      go_loopw [34] (fun i wr => ∃ k : Nat, i = .int .i64 k ∧ k ≤ n ∧ Cells wr g 5 (rowB (mixB zs (a + 2) n k)) ∧ Cells wr w.heap.size 27 #[.slice (some ⟨bb, off, none⟩) zs.length cap] ∧ Kept w wr) (fun i _ => n - (intOf i).toNat)
      case atStart => exact ⟨0, rfl, Nat.zero_le _, hc2, b2, k2⟩
      case round =>
        obtain ⟨k, rfl, hk, hrow, hb, hK⟩ := hrel
        clear hc2 b2 k2
        have cb := hb.cell 0
        have HK : Hid (Kept w wr) := hK
        by_cases hlt : k < n
        · have cw2 := (hK.cell (p := ⟨bb, off + (a + 2 + k), none⟩) hbl).trans (hw k hlt)
          have t2 : ((a : Int) + 2 + (k : Int)).toNat = a + 2 + k := by omega
          have p2 : (a : Int) + 2 + (k : Int) < (zs.length : Int) := by have := hbx; omega
          have p0 : (0 : Int) ≤ (a : Int) + 2 + (k : Int) := by omega
          have u8 := IntWalk.u8_in _ (hby k hlt)
          have g0 := (hby k hlt).1
          have g1 := (hby k hlt).2
          have cg := rowB_cell hrow (j := k) (by rw [mixB_len]; exact hlt)
          have fg := hrow.frozen k
          have HR2 : Hid _ := rowB_set hrow k (hz zs (a + 2 + k))
          have HB2 : Hid (Cells (wr.setCell ⟨g, k, none⟩ (.int .u8 (hz zs (a + 2 + k)))) w.heap.size 27 #[.slice (some ⟨bb, off, none⟩) zs.length cap]) := hb.other (by simp; omega) _
          have q1 : (k : Int) < (n : Int) := by omega
          clear hK hrow hb
          go_wp2_with fail
          go_roundw
          case rel => exact ⟨k + 1, by go_num, by omega, by rw [← mixB_succ]; exact HR2.out, HB2.out, HK.out.set (p := ⟨g, k, none⟩) (by simp; omega) _⟩
          case measure => simp [intOf]; omega
        · obtain rfl : n = k := by omega
          rw [mixB_all] at hrow
          have hcv := conv_row (cap := n) hrow
          rw [bytesL_len] at hcv
          clear hK hrow hb
          go_wp2
          go_ret
          exact ⟨by rw [HR.out]; rfl, HK.out⟩
    · have HR : Hid (textOfR zs v = ⟨#[]⟩) := by
        show _ = _
        unfold textOfR
        rw [if_neg (fun h => hg ⟨h.1, h.2.2⟩)]
      have hV' : (decide (v % 8 = 4) && leadsR zs v 0) = false := by
        rw [Bool.eq_false_iff]; simpa using hg
      rw [hV'] at hV
      clear hI hh hg hV'
      go_enter Try.func27, Try.ntmps27
      go_wp2_with (first | (go_at_call 37; refine hLo'.mono ?_; rintro e w1 ⟨lo, lc, rfl, hLy, hk1⟩; have hV1 := hV w1 lo lc hLy; clear hLy) | (go_at_call 39; refine hV1.mono ?_; rintro e wx ⟨rfl, rfl⟩))
      go_ret
      exact ⟨by rw [HR.out]; rfl, k0.trans hk1⟩
end Go.Proofs.Ytdpgnbogbndipaa
