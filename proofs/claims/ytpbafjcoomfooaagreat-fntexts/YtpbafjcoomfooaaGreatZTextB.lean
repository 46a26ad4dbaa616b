/-
  The contracts of the program's readText and TextOf.
-/
import Derived.Test.YtpbafjcoomfooaaGreatZTextA
import Derived.Test.YtpbafjcoomfooaaGreatSeq
namespace Go.Proofs.YtpbafjcoomfooaaGreat
open Go.RowKit
attribute [local go_sem] Plain.and7

theorem infoB7 : (Tryz.prog.info? 5).map (fun i => (i.zero, i.size, i.bytes)) = some (some (.int .u8 0), 1, 1) := by kernel_rfl
theorem own_fullB {W : World} {base n g : Nat} {xs : List Value} (h : W.ownsRow base 5 1 (.slice (some ⟨g, 0, none⟩) n n) n xs) : Cells W g 5 xs.toArray := by
  rcases h.2 with ⟨e, _⟩ | ⟨g', cap, cur, e, _, hc, _, _, hs, ht⟩
  · cases e
  · cases e
    have : cur.toList = xs := by rw [← ht, List.take_of_length_le (by simp; omega)]
    show W.heap[g]? = _
    rw [hc, ← this]
theorem madeBytes (n : Nat) : (madeCells (Value.int .u8 0).cells (n * 1)).toList = (List.replicate n (0 : Int)).map (Value.int .u8) := by
  apply List.ext_getElem
  · simp [madeCells]
  · intro i h1 h2
    simp [madeCells, Value.cells, Nat.mod_one]
/-- Bytes that are written so far, of n in all. -/
def mixB (zs : List Int) (f n k : Nat) : List Int := (List.range n).map (fun i => if i < k then hz zs (f + i) else 0)
theorem mixB_len (zs : List Int) (f n k : Nat) : (mixB zs f n k).length = n := by simp [mixB]
theorem mixB_zero (zs : List Int) (f n : Nat) : mixB zs f n 0 = List.replicate n 0 := by
  apply List.ext_getElem
  · simp [mixB]
  · intro i h1 h2; simp [mixB]
theorem mixB_all (zs : List Int) (f n : Nat) : mixB zs f n n = bytesL zs f n := by
  apply List.ext_getElem
  · simp [mixB, bytesL]
  · intro i h1 h2
    have : i < n := by simpa [mixB] using h1
    simp [mixB, bytesL, this]
theorem mixB_succ (zs : List Int) (f n k : Nat) : (mixB zs f n k).set k (hz zs (f + k)) = mixB zs f n (k + 1) := by
  apply List.ext_getElem
  · simp [mixB]
  · intro i h1 h2
    rw [List.getElem_set]
    simp only [mixB, List.getElem_map, List.getElem_range]
    by_cases h : k = i
    · subst h; simp
    · rw [if_neg h]
      by_cases hi : i < k
      · rw [if_pos hi, if_pos (by omega)]
      · rw [if_neg hi, if_neg (by omega)]
abbrev rowB (xs : List Int) : Array Value := (xs.map (Value.int .u8)).toArray
theorem rowB_cell {W : World} {g : Nat} {xs : List Int} (h : Cells W g 5 (rowB xs)) {j : Nat} (hj : j < xs.length) : W.cell? ⟨g, j, none⟩ = some (.int .u8 (xs.getD j 0)) := by
  rw [h.cell j]; simp [hj]
theorem rowB_set {W : World} {g : Nat} {xs : List Int} (h : Cells W g 5 (rowB xs)) (j : Nat) (v : Int) : Cells (W.setCell ⟨g, j, none⟩ (.int .u8 v)) g 5 (rowB (xs.set j v)) := by
  have := h.set j (.int .u8 v)
  simpa [rowB, List.map_set] using this
theorem conv_row {W : World} {g cap : Nat} {xs : List Int} (h : Cells W g 5 (rowB xs)) : (convert 22 9 (.slice (some ⟨g, 0, none⟩) xs.length cap)).run Tryz.prog W = .ok (.string (strOfNums xs)) W :=
  run_convert_bytes_arg W 22 5 Tryz.underlying22 Tryz.underlying5 g 0 xs.length cap xs rfl (fun j hj => by rw [Nat.zero_add]; exact rowB_cell h hj) 9 Tryz.underlying9

set_option maxHeartbeats 4000000 in
set_option maxRecDepth 100000 in
theorem readText_ok (w : World) (ao : Option Addr) (cap : Nat) (zs : List Int) (a n : Nat) (hI : Ints w ao zs) (hl : zs.length ≤ 1048576) (hn : hz zs (a + 1) = (n : Int)) (hbx : a + 2 + n ≤ zs.length) (hby : ∀ k, k < n → 0 ≤ hz zs (a + 2 + k) ∧ hz zs (a + 2 + k) ≤ 255) :
    Calls Tryz.prog 49 #[.slice ao zs.length cap, .int .i64 (a : Int)] w fun e w' => e = .returned (.string (strOfNums (bytesL zs (a + 2) n))) ∧ Kept w w' := by
  obtain ⟨i0, hi, hz0, hz1, hz2⟩ := info_parts infoB7
  obtain ⟨bb, off, rfl, hc⟩ := hI.at (k := 0) (by omega)
  have hbl : bb < w.heap.size := World.block_lt_of_cell? _ _ (hc 0 (by omega))
  have h1 : w.cell? ⟨bb, off + (a + 1), none⟩ = some (.int .i64 (n : Int)) := by rw [← hn]; exact hc (a + 1) (by omega)
  have hw : ∀ k, k < n → w.cell? ⟨bb, off + (a + 2 + k), none⟩ = some (.int .i64 (hz zs (a + 2 + k))) := fun k hk => hc (a + 2 + k) (by omega)
  have t1 : ((a : Int) + 1).toNat = a + 1 := by omega
  have p1 : (a : Int) + 1 < (zs.length : Int) := by omega
  clear hc hn hI
  go_enter Tryz.func49, Tryz.ntmps49
  go_wp2_with (at_make; refine wpList_make_full _ rfl _ _ 22 rfl w.heap.size 5 i0 (.int .u8 0) 1 Tryz.underlying22 hi hz0 hz1 .i64 .i64 _ _ n rfl rfl rfl rfl (by rw [hz2]; omega) (by unfold maxLen; omega) (by simp) ?_; intro w2 hown hgrow)
  rw [madeBytes, ← mixB_zero zs (a + 2)] at hown
  have hc2 : Cells w2 w.heap.size 5 (rowB (mixB zs (a + 2) n 0)) := own_fullB hown
  have hK2 : Kept w w2 := (Below.refl _ _).grown hgrow (Nat.le_refl _) (by simp)
  obtain ⟨g, hg⟩ : ∃ g, w.heap.size = g := ⟨_, rfl⟩
  have hgl : bb < g := by omega
  rw [hg] at hc2 ⊢
  clear hown hgrow h1 t1 p1
  go_wp2_with fail
  go_loopw [15] (fun i wr => ∃ k : Nat, i = .int .i64 k ∧ k ≤ n ∧ Cells wr g 5 (rowB (mixB zs (a + 2) n k)) ∧ Kept w wr) (fun i _ => n - (intOf i).toNat)
  case atStart => exact ⟨0, rfl, Nat.zero_le _, hc2, hK2⟩
  case round =>
    obtain ⟨k, rfl, hk, hrow, hK⟩ := hrel
    clear hc2 hK2
    have HK : Hid (Kept w wr) := hK
    by_cases hlt : k < n
    · have cw2 := (hK.cell (p := ⟨bb, off + (a + 2 + k), none⟩) hbl).trans (hw k hlt)
      have t2 : ((a : Int) + 2 + (k : Int)).toNat = a + 2 + k := by omega
      have p2 : (a : Int) + 2 + (k : Int) < (zs.length : Int) := by have := hbx; omega
      have p0 : (0 : Int) ≤ (a : Int) + 2 + (k : Int) := by omega
      have u8 := IntWalk.u8_in _ (hby k hlt)
      have g0 := (hby k hlt).1
      have g1 := (hby k hlt).2
      have cg := rowB_cell hrow (j := k) (by rw [mixB_len]; exact hlt)
      have fg := hrow.frozen k
      have HR2 : Hid _ := rowB_set hrow k (hz zs (a + 2 + k))
      have q1 : (k : Int) < (n : Int) := by omega
      clear hK hrow
      go_wp2_with fail
      go_roundw
      case rel => exact ⟨k + 1, by go_num, by omega, by rw [← mixB_succ]; exact HR2.out, HK.out.set (p := ⟨g, k, none⟩) (by simp; omega) _⟩
      case measure => simp [intOf]; omega
    · obtain rfl : n = k := by omega
      rw [mixB_all] at hrow
      have hcv := conv_row (cap := n) hrow
      rw [bytesL_len] at hcv
      clear hK hrow
      go_wp2
      go_ret
      exact ⟨rfl, HK.out⟩
set_option maxHeartbeats 4000000 in
set_option maxRecDepth 100000 in
theorem impl_TextOf_ok (w : World) (ao : Option Addr) (cap : Nat) (zs : List Int) (v : Int) (hI : Ints w ao zs) (hl : zs.length ≤ 1048576) (hv0 : -9223372036854775808 ≤ v) (hv1 : v ≤ 9223372036854775807) :
    Calls Tryz.prog 15 #[.agg #[.slice ao zs.length cap], .int .i64 v] w fun e w' => e = .returned (.string (textOfR zs v)) ∧ Kept w w' := by
  have b0 := Cells.new w 26 #[.slice ao zs.length cap]
  have k0 : Kept w (w.alloc (.cells #[.slice ao zs.length cap] 26)) := Kept.alloc (Below.refl _ _) _
  have hLo := heapLayout_ok _ ao cap zs (hI.kept k0) hl
  cases hh : heapR zs with
  | false =>
    have HR : Hid (textOfR zs v = ⟨#[]⟩) := by simp [Hid, textOfR, hh]
    have hLo' := hLo.mono (R' := fun e w' => e = .returned (.tuple #[.slice none 0 0, .bool false]) ∧ Kept (w.alloc (.cells #[.slice ao zs.length cap] 26)) w') (fun e w' h => ⟨h.1 hh, h.2.2⟩)
    clear hh hI hLo
    go_enter Tryz.func15, Tryz.ntmps15
    go_wp2_with (go_at_call 47; refine hLo'.mono ?_; rintro e w1 ⟨rfl, hk1⟩)
    go_ret
    exact ⟨by rw [HR.out]; rfl, k0.trans hk1⟩
  | true =>
    have hLo' := hLo.mono (R' := fun e w' => ∃ lo lc, e = .returned (.tuple #[.slice lo zs.length lc, .bool true]) ∧ Ints w' lo (lyt zs) ∧ Kept (w.alloc (.cells #[.slice ao zs.length cap] 26)) w') (fun e w' h => by obtain ⟨lo, lc, h1, h2⟩ := h.2.1 hh; exact ⟨lo, lc, h1, h2, h.2.2⟩)
    clear hLo
    have hV := fun (u : World) (lo : Option Addr) (lc : Nat) (hu : Ints u lo (lyt zs)) => valueOk_ok u lo lc zs 7 v hu hv0 hv1
    rw [val7] at hV
    by_cases hg : v % 8 = 4 ∧ leadsR zs v 0 = true
    · obtain ⟨b, hb, e, hk, hm⟩ := leads_text hg.1 hg.2
      obtain ⟨n, hn, hns, hby⟩ := text_facts hh hm hk
      have hble := b.2.2.1
      have HR : Hid (textOfR zs v = strOfNums (bytesL zs (b.1.at' + 2) n)) := by
        show _ = _
        unfold textOfR textL
        rw [if_pos ⟨hg.1, hh, hg.2⟩, e]
        simp [hn]
      obtain ⟨a, ha⟩ : ∃ a : Nat, b.1.at' = a := ⟨_, rfl⟩
      rw [ha] at e HR hn hble hby
      have hV' : (decide (v % 8 = 4) && leadsR zs v 0) = true := by simp [hg.1, hg.2]
      rw [hV'] at hV
      have hRT := fun (u : World) (hu : Kept w u) => readText_ok u ao cap zs a n (hI.kept hu) hl hn (by omega) hby
      have HRT : Hid _ := hRT
      have HN : Hid (∀ (u : World), Calls Tryz.prog 34 #[.int .i64 v] u fun e w' => e = .returned (.int .i64 (a : Int)) ∧ Kept u w') := fun u => by
        refine (impl_Num_ok v u hv0 hv1).mono ?_
        rintro e' w' ⟨rfl, rfl⟩
        exact ⟨by rw [e], Below.refl _ _⟩
      clear hn hI hh hb hk hm ha hg hV' hns hble hby hRT e
      go_enter Tryz.func15, Tryz.ntmps15
      go_wp2_with (first | (go_at_call 47; refine hLo'.mono ?_; rintro e w1 ⟨lo, lc, rfl, hLy, hk1⟩; have hV1 := hV w1 lo lc hLy; clear hLy) | (go_at_call 48; refine hV1.mono ?_; rintro e wx ⟨rfl, rfl⟩))
      have kd1 : ∀ u, Kept w1.drew u → Kept w u := fun u hu => (k0.trans hk1).trans (Kept.trans (Below.refl _ w1).drew hu)
      have b1 := b0.kept hk1
      have y0 : ∀ u, Kept w1.drew u → u.cell? ⟨w.heap.size, 0, none⟩ = some (.slice ao zs.length cap) := fun u hu => (b1.kept (Kept.trans (Below.refl _ w1).drew hu)).cell 0
      have C1 : Hid (∀ u, Kept w1.drew u → Calls Tryz.prog 34 #[.int .i64 v] u fun e w' => e = .returned (.int .i64 (a : Int)) ∧ Kept u w') := fun u _ => HN.out u
      have C2 : Hid (∀ u, Kept w1.drew u → Calls Tryz.prog 49 #[.slice ao zs.length cap, .int .i64 (a : Int)] u fun e w' => e = .returned (.string (strOfNums (bytesL zs (a + 2) n))) ∧ Kept u w') := fun u hu => HRT.out u (kd1 u hu)
      refine wp_region_seqL (by kernel_rfl) (by kernel_rfl) ?_
      repeat (first
        | (refine SeqL.skip (by rfl) ?_; simp only [Act.put, List.setIfInBounds_toArray, List.set_cons_zero, List.set_cons_succ])
        | (refine SeqL.pure ?_ (by rfl) ?_ ?_; rotate_left; (focus (intro u hu; have y0' := y0 u hu; go_simp; first | done | exact rfl)); simp only [Act.put, List.setIfInBounds_toArray, List.set_cons_zero, List.set_cons_succ])
        | (refine SeqL.call _ _ _ (by rfl) ?_ C1.out ?_; (focus (intro u; go_simp; done)); simp only [Act.put, List.setIfInBounds_toArray, List.set_cons_zero, List.set_cons_succ])
        | (refine SeqL.call _ _ _ (by rfl) ?_ C2.out ?_; (focus (intro u; go_simp; done)); simp only [Act.put, List.setIfInBounds_toArray, List.set_cons_zero, List.set_cons_succ]))
      refine SeqL.nil ?_
      intro w2 hu2
      have k2 := kd1 w2 hu2
      clear y0 C1 C2 kd1 hu2 hV hV1 hLo'
      go_wp2_with fail
      go_ret
      exact ⟨by rw [HR.out]; rfl, k2⟩
    · have HR : Hid (textOfR zs v = ⟨#[]⟩) := by
        show _ = _
        unfold textOfR
        rw [if_neg (fun h => hg ⟨h.1, h.2.2⟩)]
      have hV' : (decide (v % 8 = 4) && leadsR zs v 0) = false := by
        rw [Bool.eq_false_iff]; simpa using hg
      rw [hV'] at hV
      clear hI hh hg hV'
      go_enter Tryz.func15, Tryz.ntmps15
      go_wp2_with (first | (go_at_call 47; refine hLo'.mono ?_; rintro e w1 ⟨lo, lc, rfl, hLy, hk1⟩; have hV1 := hV w1 lo lc hLy; clear hLy) | (go_at_call 48; refine hV1.mono ?_; rintro e wx ⟨rfl, rfl⟩))
      go_ret
      exact ⟨by rw [HR.out]; rfl, k0.trans hk1⟩
end Go.Proofs.YtpbafjcoomfooaaGreat
