/-
  The contracts of the program's readText and TextOf.
  Rows of texts, and what Names tells (facts on lists).
  The contract of the program's Names.
  The contract of chapter 5's model Names.
  The contracts of what the laws do with rows of texts: eqStringS, markText, markStringS, heldStringS.
  Names of the program and of its model together: they tell the same texts, each in memory of its own.
-/
import Derived.Deep.RegionWith
import Derived.Deep.CutRange
import Derived.Deep.RegionHeld3
import Derived.Deep.AppendLies
import Derived.Test.YtpbafjcoomfooaaGreatZTextA
import Derived.Test.YtpbafjcoomfooaaGreatSeq
import Derived.Test.YtpbafjcoomfooaaGreatGrpV
import Derived.Test.YtpbafjcoomfooaaGreatHelpM
namespace Go.Proofs.YtpbafjcoomfooaaGreat
open Go.RowKit
attribute [local go_sem] Plain.and7

theorem infoB7 : (Tryz.prog.info? 5).map (fun i => (i.zero, i.size, i.bytes)) = some (some (.int .u8 0), 1, 1) := by kernel_rfl
theorem own_fullB {W : World} {base n g : Nat} {xs : List Value} (h : W.ownsRow base 5 1 (.slice (some ⟨g, 0, none⟩) n n) n xs) : Cells W g 5 xs.toArray := by
  rcases h.2 with ⟨e, _⟩ | ⟨g', cap, cur, e, _, hc, _, _, hs, ht⟩
  · cases e
  · cases e
    have : cur.toList = xs := by rw [← ht, List.take_of_length_le (by simp; omega)]
    show W.heap[g]? = _
    rw [hc, ← this]
theorem madeBytes (n : Nat) : (madeCells (Value.int .u8 0).cells (n * 1)).toList = (List.replicate n (0 : Int)).map (Value.int .u8) := by
  apply List.ext_getElem
  · simp [madeCells]
  · intro i h1 h2
    simp [madeCells, Value.cells, Nat.mod_one]
/-- Bytes that are written so far, of n in all. -/
def mixB (zs : List Int) (f n k : Nat) : List Int := (List.range n).map (fun i => if i < k then hz zs (f + i) else 0)
theorem mixB_len (zs : List Int) (f n k : Nat) : (mixB zs f n k).length = n := by simp [mixB]
theorem mixB_zero (zs : List Int) (f n : Nat) : mixB zs f n 0 = List.replicate n 0 := by
  apply List.ext_getElem
  · simp [mixB]
  · intro i h1 h2; simp [mixB]
theorem mixB_all (zs : List Int) (f n : Nat) : mixB zs f n n = bytesL zs f n := by
  apply List.ext_getElem
  · simp [mixB, bytesL]
  · intro i h1 h2
    have : i < n := by simpa [mixB] using h1
    simp [mixB, bytesL, this]
theorem mixB_succ (zs : List Int) (f n k : Nat) : (mixB zs f n k).set k (hz zs (f + k)) = mixB zs f n (k + 1) := by
  apply List.ext_getElem
  · simp [mixB]
  · intro i h1 h2
    rw [List.getElem_set]
    simp only [mixB, List.getElem_map, List.getElem_range]
    by_cases h : k = i
    · subst h; simp
    · rw [if_neg h]
      by_cases hi : i < k
      · rw [if_pos hi, if_pos (by omega)]
      · rw [if_neg hi, if_neg (by omega)]
abbrev rowB (xs : List Int) : Array Value := (xs.map (Value.int .u8)).toArray
theorem rowB_cell {W : World} {g : Nat} {xs : List Int} (h : Cells W g 5 (rowB xs)) {j : Nat} (hj : j < xs.length) : W.cell? ⟨g, j, none⟩ = some (.int .u8 (xs.getD j 0)) := by
  rw [h.cell j]; simp [hj]
theorem rowB_set {W : World} {g : Nat} {xs : List Int} (h : Cells W g 5 (rowB xs)) (j : Nat) (v : Int) : Cells (W.setCell ⟨g, j, none⟩ (.int .u8 v)) g 5 (rowB (xs.set j v)) := by
  have := h.set j (.int .u8 v)
  simpa [rowB, List.map_set] using this
theorem conv_row {W : World} {g cap : Nat} {xs : List Int} (h : Cells W g 5 (rowB xs)) : (convert 22 9 (.slice (some ⟨g, 0, none⟩) xs.length cap)).run Tryz.prog W = .ok (.string (strOfNums xs)) W :=
  run_convert_bytes_arg W 22 5 Tryz.underlying22 Tryz.underlying5 g 0 xs.length cap xs rfl (fun j hj => by rw [Nat.zero_add]; exact rowB_cell h hj) 9 Tryz.underlying9

set_option maxHeartbeats 4000000 in
set_option maxRecDepth 100000 in
theorem readText_ok (w : World) (ao : Option Addr) (cap : Nat) (zs : List Int) (a n : Nat) (hI : Ints w ao zs) (hl : zs.length ≤ 1048576) (hn : hz zs (a + 1) = (n : Int)) (hbx : a + 2 + n ≤ zs.length) (hby : ∀ k, k < n → 0 ≤ hz zs (a + 2 + k) ∧ hz zs (a + 2 + k) ≤ 255) :
    Calls Tryz.prog 49 #[.slice ao zs.length cap, .int .i64 (a : Int)] w fun e w' => e = .returned (.string (strOfNums (bytesL zs (a + 2) n))) ∧ Kept w w' := by
  obtain ⟨i0, hi, hz0, hz1, hz2⟩ := info_parts infoB7
  obtain ⟨bb, off, rfl, hc⟩ := hI.at (k := 0) (by omega)
  have hbl : bb < w.heap.size := World.block_lt_of_cell? _ _ (hc 0 (by omega))
  have h1 : w.cell? ⟨bb, off + (a + 1), none⟩ = some (.int .i64 (n : Int)) := by rw [← hn]; exact hc (a + 1) (by omega)
  have hw : ∀ k, k < n → w.cell? ⟨bb, off + (a + 2 + k), none⟩ = some (.int .i64 (hz zs (a + 2 + k))) := fun k hk => hc (a + 2 + k) (by omega)
  have t1 : ((a : Int) + 1).toNat = a + 1 := by omega
  have p1 : (a : Int) + 1 < (zs.length : Int) := by omega
  clear hc hn hI
  go_enter Tryz.func49, Tryz.ntmps49
  go_wp2_with (at_make; refine wpList_make_full _ rfl _ _ 22 rfl w.heap.size 5 i0 (.int .u8 0) 1 Tryz.underlying22 hi hz0 hz1 .i64 .i64 _ _ n rfl rfl rfl rfl (by rw [hz2]; omega) (by unfold maxLen; omega) (by simp) ?_; intro w2 hown hgrow)
  rw [madeBytes, ← mixB_zero zs (a + 2)] at hown
  have hc2 : Cells w2 w.heap.size 5 (rowB (mixB zs (a + 2) n 0)) := own_fullB hown
  have hK2 : Kept w w2 := (Below.refl _ _).grown hgrow (Nat.le_refl _) (by simp)
  obtain ⟨g, hg⟩ : ∃ g, w.heap.size = g := ⟨_, rfl⟩
  have hgl : bb < g := by omega
  rw [hg] at hc2 ⊢
  clear hown hgrow h1 t1 p1
  go_wp2_with fail
  go_loopw [15] (fun i wr => ∃ k : Nat, i = .int .i64 k ∧ k ≤ n ∧ Cells wr g 5 (rowB (mixB zs (a + 2) n k)) ∧ Kept w wr) (fun i _ => n - (intOf i).toNat)
  case atStart => exact ⟨0, rfl, Nat.zero_le _, hc2, hK2⟩
  case round =>
    obtain ⟨k, rfl, hk, hrow, hK⟩ := hrel
    clear hc2 hK2
    have HK : Hid (Kept w wr) := hK
    by_cases hlt : k < n
    · have cw2 := (hK.cell (p := ⟨bb, off + (a + 2 + k), none⟩) hbl).trans (hw k hlt)
      have t2 : ((a : Int) + 2 + (k : Int)).toNat = a + 2 + k := by omega
      have p2 : (a : Int) + 2 + (k : Int) < (zs.length : Int) := by have := hbx; omega
      have p0 : (0 : Int) ≤ (a : Int) + 2 + (k : Int) := by omega
      have u8 := IntWalk.u8_in _ (hby k hlt)
      have g0 := (hby k hlt).1
      have g1 := (hby k hlt).2
      have cg := rowB_cell hrow (j := k) (by rw [mixB_len]; exact hlt)
      have fg := hrow.frozen k
      have HR2 : Hid _ := rowB_set hrow k (hz zs (a + 2 + k))
      have q1 : (k : Int) < (n : Int) := by omega
      clear hK hrow
      go_wp2_with fail
      go_roundw
      case rel => exact ⟨k + 1, by go_num, by omega, by rw [← mixB_succ]; exact HR2.out, HK.out.set (p := ⟨g, k, none⟩) (by simp; omega) _⟩
      case measure => simp [intOf]; omega
    · obtain rfl : n = k := by omega
      rw [mixB_all] at hrow
      have hcv := conv_row (cap := n) hrow
      rw [bytesL_len] at hcv
      clear hK hrow
      go_wp2
      go_ret
      exact ⟨rfl, HK.out⟩
set_option maxHeartbeats 4000000 in
set_option maxRecDepth 100000 in
theorem impl_TextOf_ok (w : World) (ao : Option Addr) (cap : Nat) (zs : List Int) (v : Int) (hI : Ints w ao zs) (hl : zs.length ≤ 1048576) (hv0 : -9223372036854775808 ≤ v) (hv1 : v ≤ 9223372036854775807) :
    Calls Tryz.prog 15 #[.agg #[.slice ao zs.length cap], .int .i64 v] w fun e w' => e = .returned (.string (textOfR zs v)) ∧ Kept w w' := by
  have b0 := Cells.new w 26 #[.slice ao zs.length cap]
  have k0 : Kept w (w.alloc (.cells #[.slice ao zs.length cap] 26)) := Kept.alloc (Below.refl _ _) _
  have hLo := heapLayout_ok _ ao cap zs (hI.kept k0) hl
  cases hh : heapR zs with
  | false =>
    have HR : Hid (textOfR zs v = ⟨#[]⟩) := by simp [Hid, textOfR, hh]
    have hLo' := hLo.mono (R' := fun e w' => e = .returned (.tuple #[.slice none 0 0, .bool false]) ∧ Kept (w.alloc (.cells #[.slice ao zs.length cap] 26)) w') (fun e w' h => ⟨h.1 hh, h.2.2⟩)
    clear hh hI hLo
    go_enter Tryz.func15, Tryz.ntmps15
    go_wp2_with (go_at_call 47; refine hLo'.mono ?_; rintro e w1 ⟨rfl, hk1⟩)
    go_ret
    exact ⟨by rw [HR.out]; rfl, k0.trans hk1⟩
  | true =>
    have hLo' := hLo.mono (R' := fun e w' => ∃ lo lc, e = .returned (.tuple #[.slice lo zs.length lc, .bool true]) ∧ Ints w' lo (lyt zs) ∧ Kept (w.alloc (.cells #[.slice ao zs.length cap] 26)) w') (fun e w' h => by obtain ⟨lo, lc, h1, h2⟩ := h.2.1 hh; exact ⟨lo, lc, h1, h2, h.2.2⟩)
    clear hLo
    have hV := fun (u : World) (lo : Option Addr) (lc : Nat) (hu : Ints u lo (lyt zs)) => valueOk_ok u lo lc zs 7 v hu hv0 hv1
    rw [val7] at hV
    by_cases hg : v % 8 = 4 ∧ leadsR zs v 0 = true
    · obtain ⟨b, hb, e, hk, hm⟩ := leads_text hg.1 hg.2
      obtain ⟨n, hn, hns, hby⟩ := text_facts hh hm hk
      have hble := b.2.2.1
      have HR : Hid (textOfR zs v = strOfNums (bytesL zs (b.1.at' + 2) n)) := by
        show _ = _
        unfold textOfR textL
        rw [if_pos ⟨hg.1, hh, hg.2⟩, e]
        simp [hn]
      obtain ⟨a, ha⟩ : ∃ a : Nat, b.1.at' = a := ⟨_, rfl⟩
      rw [ha] at e HR hn hble hby
      have hV' : (decide (v % 8 = 4) && leadsR zs v 0) = true := by simp [hg.1, hg.2]
      rw [hV'] at hV
      have hRT := fun (u : World) (hu : Kept w u) => readText_ok u ao cap zs a n (hI.kept hu) hl hn (by omega) hby
      have HRT : Hid _ := hRT
      have HN : Hid (∀ (u : World), Calls Tryz.prog 34 #[.int .i64 v] u fun e w' => e = .returned (.int .i64 (a : Int)) ∧ Kept u w') := fun u => by
        refine (impl_Num_ok v u hv0 hv1).mono ?_
        rintro e' w' ⟨rfl, rfl⟩
        exact ⟨by rw [e], Below.refl _ _⟩
      clear hn hI hh hb hk hm ha hg hV' hns hble hby hRT e
      go_enter Tryz.func15, Tryz.ntmps15
      go_wp2_with (first | (go_at_call 47; refine hLo'.mono ?_; rintro e w1 ⟨lo, lc, rfl, hLy, hk1⟩; have hV1 := hV w1 lo lc hLy; clear hLy) | (go_at_call 48; refine hV1.mono ?_; rintro e wx ⟨rfl, rfl⟩))
      have kd1 : ∀ u, Kept w1.drew u → Kept w u := fun u hu => (k0.trans hk1).trans (Kept.trans (Below.refl _ w1).drew hu)
      have b1 := b0.kept hk1
      have y0 : ∀ u, Kept w1.drew u → u.cell? ⟨w.heap.size, 0, none⟩ = some (.slice ao zs.length cap) := fun u hu => (b1.kept (Kept.trans (Below.refl _ w1).drew hu)).cell 0
      have C1 : Hid (∀ u, Kept w1.drew u → Calls Tryz.prog 34 #[.int .i64 v] u fun e w' => e = .returned (.int .i64 (a : Int)) ∧ Kept u w') := fun u _ => HN.out u
      have C2 : Hid (∀ u, Kept w1.drew u → Calls Tryz.prog 49 #[.slice ao zs.length cap, .int .i64 (a : Int)] u fun e w' => e = .returned (.string (strOfNums (bytesL zs (a + 2) n))) ∧ Kept u w') := fun u hu => HRT.out u (kd1 u hu)
      refine wp_region_seqL (by kernel_rfl) (by kernel_rfl) ?_
      repeat (first
        | (refine SeqL.skip (by rfl) ?_; simp only [Act.put, List.setIfInBounds_toArray, List.set_cons_zero, List.set_cons_succ])
        | (refine SeqL.pure ?_ (by rfl) ?_ ?_; rotate_left; (focus (intro u hu; have y0' := y0 u hu; go_simp; first | done | exact rfl)); simp only [Act.put, List.setIfInBounds_toArray, List.set_cons_zero, List.set_cons_succ])
        | (refine SeqL.call _ _ _ (by rfl) ?_ C1.out ?_; (focus (intro u; go_simp; done)); simp only [Act.put, List.setIfInBounds_toArray, List.set_cons_zero, List.set_cons_succ])
        | (refine SeqL.call _ _ _ (by rfl) ?_ C2.out ?_; (focus (intro u; go_simp; done)); simp only [Act.put, List.setIfInBounds_toArray, List.set_cons_zero, List.set_cons_succ]))
      refine SeqL.nil ?_
      intro w2 hu2
      have k2 := kd1 w2 hu2
      clear y0 C1 C2 kd1 hu2 hV hV1 hLo'
      go_wp2_with fail
      go_ret
      exact ⟨by rw [HR.out]; rfl, k2⟩
    · have HR : Hid (textOfR zs v = ⟨#[]⟩) := by
        show _ = _
        unfold textOfR
        rw [if_neg (fun h => hg ⟨h.1, h.2.2⟩)]
      have hV' : (decide (v % 8 = 4) && leadsR zs v 0) = false := by
        rw [Bool.eq_false_iff]; simpa using hg
      rw [hV'] at hV
      clear hI hh hg hV'
      go_enter Tryz.func15, Tryz.ntmps15
      go_wp2_with (first | (go_at_call 47; refine hLo'.mono ?_; rintro e w1 ⟨lo, lc, rfl, hLy, hk1⟩; have hV1 := hV w1 lo lc hLy; clear hLy) | (go_at_call 48; refine hV1.mono ?_; rintro e wx ⟨rfl, rfl⟩))
      go_ret
      exact ⟨by rw [HR.out]; rfl, k0.trans hk1⟩
end Go.Proofs.YtpbafjcoomfooaaGreat
namespace Go.Proofs.YtpbafjcoomfooaaGreat
open Go.RowKit
attribute [local go_sem] Plain.and7 Instr.field asAgg

theorem infoS : (Tryz.prog.info? 9).map (fun i => (i.zero, i.size, i.bytes)) = some (some (.string ⟨#[]⟩), 1, 16) := by kernel_rfl
/-- The text that a value names. -/
def txtP (zs : List Int) (v : Int) : ByteArray := strOfNums (textL zs (plc v))
def txtsP (zs : List Int) (ps : List Nat) : List ByteArray := ps.map (fun p => txtP zs (hz zs (p + 1)))
theorem txtsP_snoc (zs : List Int) (ps : List Nat) (p : Nat) : (txtsP zs (ps ++ [p])).map Value.string = (txtsP zs ps).map Value.string ++ [.string (txtP zs (hz zs (p + 1)))] := by simp [txtsP]
theorem txtsP_len (zs : List Int) (ps : List Nat) : (txtsP zs ps).length = ps.length := by simp [txtsP]
def OwnS (W : World) (base : Nat) (v : Value) (ts : List ByteArray) : Prop := W.ownsRow base 9 1 v ts.length (ts.map Value.string)
theorem OwnS.kept {W W' : World} {base : Nat} {v : Value} {ts : List ByteArray} (h : OwnS W base v ts) (hk : Kept W W') : OwnS W' base v ts := World.ownsRow.kept h hk.grown (by cases e : v.ownBlock <;> simp)
theorem OwnS.block {W : World} {base : Nat} {v : Value} {ts : List ByteArray} (h : OwnS W base v ts) : ∀ j, v.ownBlock = some j → base ≤ j ∧ j < W.heap.size := by
  intro j hj
  rcases h.2 with ⟨rfl, _⟩ | ⟨g, cap, cur, rfl, hb, hg, _⟩
  · simp [Value.ownBlock] at hj
  · simp [Value.ownBlock] at hj
    subst hj
    exact ⟨hb, (Array.getElem?_eq_some_iff.1 hg).1⟩
theorem OwnS.shape {W : World} {base : Nat} {v : Value} {ts : List ByteArray} (h : OwnS W base v ts) : ∃ ao cap, v = .slice ao ts.length cap := by
  rcases h.2 with ⟨rfl, hn⟩ | ⟨g, cap, cur, rfl, _⟩
  · exact ⟨none, 0, by rw [hn]⟩
  · exact ⟨_, cap, rfl⟩
theorem OwnS.base {W : World} {a b : Nat} {v : Value} {ts : List ByteArray} (h : OwnS W b v ts) (hab : a ≤ b) : OwnS W a v ts := ownsRow_base h hab
theorem Path.det {zs : List Int} : ∀ {ps qs : List Nat} {v : Int}, Path zs v ps 0 → Path zs v qs 0 → ps = qs
  | [], [], _, _, _ => rfl
  | [], _ :: _, v, h, k => absurd (show (0 : Int) = v from h).symm k.1
  | _ :: _, [], v, h, k => absurd (show (0 : Int) = v from k).symm h.1
  | p :: ps, q :: qs, v, h, k => by
    have e : p = q := h.2.1.symm.trans k.2.1
    subst e
    rw [Path.det h.2.2 k.2.2]
theorem chase_path {zs : List Int} : ∀ (n : Nat) (v : Int), chase zs n v = 0 → ∃ ps : List Nat, ps.length ≤ n ∧ Path zs v ps 0
  | 0, v, h => ⟨[], by simp, (show v = 0 from h).symm⟩
  | n + 1, v, h => by
    by_cases h0 : v = 0
    · exact ⟨[], by simp, h0.symm⟩
    · simp only [chase, if_neg h0] at h
      obtain ⟨ps, h1, h2⟩ := chase_path n _ h
      exact ⟨plc v :: ps, by simpa using h1, h0, rfl, h2⟩
theorem Path.cells {zs : List Int} {v' : Int} (hh : heapR zs = true) : ∀ {ps : List Nat} {v : Int}, Path zs v ps v' → nextR zs v 3 = true → ∀ p ∈ ps, ∃ u, u ≠ 0 ∧ nextR zs u 3 = true ∧ plc u = p
  | [], _, _, _, p, hp => by simp at hp
  | q :: qs, v, h, hv, p, hp => by
    rcases List.mem_cons.1 hp with rfl | hp
    · exact ⟨v, h.1, hv, h.2.1⟩
    · obtain ⟨n, s, e, _, _, _, hn⟩ := next_facts hh hv h.1
      have e2 : q = n := h.2.1.symm.trans (plc_is e)
      subst e2
      exact Path.cells hh h.2.2 hn p hp
/-- What Names tells: the texts, where there is an object whose cells go in no circle. -/
def namesR (zs : List Int) (obj : Int) : Bool := heapR zs && isOb zs obj && !roundR zs obj
/-- A cell's name leads to a text. -/
theorem cell_name {zs : List Int} {v : Int} (hh : heapR zs = true) (hv : nextR zs v 3 = true) (h0 : v ≠ 0) : ∃ (p m t : Nat), plc v = p ∧ v / 8 = (p : Int) ∧ p + 4 ≤ zs.length ∧ nextR zs (hz zs (p + 3)) 3 = true ∧ hz zs (p + 1) / 8 = (m : Int) ∧ -9223372036854775808 ≤ hz zs (p + 1) ∧ hz zs (p + 1) ≤ 9223372036854775807 ∧ m + t + 2 ≤ zs.length ∧ hz zs (m + 1) = (t : Int) ∧ (∀ i, i < t → 0 ≤ hz zs (m + 2 + i) ∧ hz zs (m + 2 + i) ≤ 255) ∧ txtP zs (hz zs (p + 1)) = strOfNums (bytesL zs (m + 2) t) := by
  unfold nextR at hv
  simp only [Bool.and_eq_true, Bool.or_eq_true, decide_eq_true_eq, h0, false_or] at hv
  have hk := leads_kind hv.2 (by omega)
  rw [hv.1] at hk
  obtain ⟨n, s, e, h1, h2, _, _, h4⟩ := kind_block (k := 3) hh (by rw [hk]; simp [wantK])
  rw [blk_cell] at h4
  unfold cellR at h4
  simp only [Bool.and_eq_true, decide_eq_true_eq] at h4
  obtain ⟨b, hb, eb, hkb, hm⟩ := leads_text h4.1.1.1.1.2 h4.1.1.1.2
  obtain ⟨t, ht, hts, hby⟩ := text_facts hh hm hkb
  have hble := b.2.2.1
  have hlen := (slabOk_iff.1 (heapR_slab hh)).1
  refine ⟨n, b.1.at', t, plc_is e, e, by omega, h4.1.2, eb, by omega, by omega, by omega, ht, hby, ?_⟩
  unfold txtP textL
  rw [plc_is eb, ht]
  simp

end Go.Proofs.YtpbafjcoomfooaaGreat
namespace Go.Proofs.YtpbafjcoomfooaaGreat
open Go.RowKit
attribute [local go_sem] Plain.and7 Instr.field asAgg

set_option maxHeartbeats 8000000 in
set_option maxRecDepth 100000 in
theorem impl_Names_ok (w : World) (ao : Option Addr) (cap : Nat) (zs : List Int) (obj : Int) (hI : Ints w ao zs) (hl : zs.length ≤ 1048576) (ho : -9223372036854775808 ≤ obj ∧ obj ≤ 9223372036854775807) :
    Calls Tryz.prog 22 #[.agg #[.slice ao zs.length cap], .int .i64 obj] w fun e w' => ∃ v ps, e = .returned v ∧ OwnS w' w.heap.size v (txtsP zs ps) ∧ ((namesR zs obj = false ∧ ps = []) ∨ (namesR zs obj = true ∧ Path zs (hz zs (plc obj + 2)) ps 0)) ∧ ps.length ≤ 1048576 ∧ Kept w w' := by
  obtain ⟨i0, hi, hz0, hz1, hz2⟩ := info_parts infoS
  have b0 := Cells.new w 26 #[.slice ao zs.length cap]
  have k0 : Kept w (w.alloc (.cells #[.slice ao zs.length cap] 26)) := Kept.alloc (Below.refl _ _) _
  have hLo := heapLayout_ok _ ao cap zs (hI.kept k0) hl
  have nil : ∀ W, OwnS W w.heap.size (.slice none 0 0) (txtsP zs []) := fun W => World.ownsRow_nil _ _ _ _
  cases hh : heapR zs with
  | false =>
    have HR : Hid (namesR zs obj = false) := by simp [Hid, namesR, hh]
    have hLo' := hLo.mono (R' := fun e w' => e = .returned (.tuple #[.slice none 0 0, .bool false]) ∧ Kept (w.alloc (.cells #[.slice ao zs.length cap] 26)) w') (fun e w' h => ⟨h.1 hh, h.2.2⟩)
    clear hh hI hLo
    go_enter Tryz.func22, Tryz.ntmps22
    go_wp2_with (go_at_call 47; refine hLo'.mono ?_; rintro e w1 ⟨rfl, hk1⟩)
    go_ret
    exact ⟨_, [], rfl, nil _, .inl ⟨HR.out, rfl⟩, by simp, k0.trans hk1⟩
  | true =>
    have hLo' := hLo.mono (R' := fun e w' => ∃ lo lc, e = .returned (.tuple #[.slice lo zs.length lc, .bool true]) ∧ Ints w' lo (lyt zs) ∧ Kept (w.alloc (.cells #[.slice ao zs.length cap] 26)) w') (fun e w' h => by obtain ⟨lo, lc, h1, h2⟩ := h.2.1 hh; exact ⟨lo, lc, h1, h2, h.2.2⟩)
    have hOb := fun (u : World) (lo : Option Addr) (lc : Nat) (hu : Ints u lo (lyt zs)) => isObject_ok u lo lc zs obj hu ho.1 ho.2
    clear hLo
    cases hob : isOb zs obj with
    | false =>
      have HR : Hid (namesR zs obj = false) := by simp [Hid, namesR, hob]
      rw [hob] at hOb
      clear hh hI hob
      go_enter Tryz.func22, Tryz.ntmps22
      go_wp2_with (first | (go_at_call 47; refine hLo'.mono ?_; rintro e w1 ⟨lo, lc, rfl, hLy, hk1⟩; have hO1 := hOb w1 lo lc hLy; clear hLy) | (go_at_call 55; refine hO1.mono ?_; rintro e wx ⟨rfl, rfl⟩))
      go_ret
      exact ⟨_, [], rfl, nil _, .inl ⟨HR.out, rfl⟩, by simp, k0.trans hk1⟩
    | true =>
      rw [hob] at hOb
      obtain ⟨h5, hv⟩ := isOb_facts hob
      obtain ⟨a, s, ha, hle, hs, _, _, hnx⟩ := obj_facts hh h5 hv
      have HP : Hid (plc obj = a) := plc_is ha
      have HR : Hid (namesR zs obj = !roundR zs obj) := by simp [Hid, namesR, hh, hob]
      have hNm := fun (u : World) => impl_Num_ok obj u ho.1 ho.2
      rw [ha] at hNm
      have HH : Hid _ := hh
      have HI : Hid _ := hI
      have HNX : Hid _ := hnx
      have HOA : Hid _ := fun (u : World) (hu : Kept w u) => objectAt_ok u ao cap zs a (hI.kept hu) hl hh (by omega) hnx
      clear hh hI hob h5 hv ha hnx
      go_enter Tryz.func22, Tryz.ntmps22
      go_wp2_with (first | (go_at_call 47; refine hLo'.mono ?_; rintro e w1 ⟨lo, lc, rfl, hLy, hk1⟩; have hO1 := hOb w1 lo lc hLy; clear hLy) | (go_at_call 55; refine hO1.mono ?_; rintro e wx ⟨rfl, rfl⟩))
      have x1 := b0.kept hk1
      have xd := x1.kept (Below.refl _ w1).drew
      have cd := xd.cell 0
      have K1 : Kept w w1.drew := (k0.trans hk1).drew
      clear hLo' hOb hO1
      go_cut [7] from 24 to 28 (fun s7 wx => ∃ B ca cc ps v', s7 = .pointer (some ⟨B, 0, none⟩) ∧ Cells wx B 71 #[.int .i64 (a : Int), .int .i64 (hz zs (a + 1)), .slice ca ps.length cc] ∧ CelsAt wx ca zs ps ∧ All zs (hz zs (a + 2)) ps v' ∧ Kept w1 wx)
      case first =>
        have kz : Kept w1 (w1.alloc (.cells #[.int .i64 0, .int .i64 0, .slice none 0 0] 71)).drew := (Kept.alloc (Below.refl _ _) _).drew
        have cdz := (x1.kept kz).cell 0
        have xz : Cells (w1.alloc (.cells #[.int .i64 0, .int .i64 0, .slice none 0 0] 71)).drew w1.heap.size 71 #[.int .i64 0, .int .i64 0, .slice none 0 0] := (Cells.new w1 71 #[.int .i64 0, .int .i64 0, .slice none 0 0]).kept (Below.refl _ _).drew
        have K1z : Kept w (w1.alloc (.cells #[.int .i64 0, .int .i64 0, .slice none 0 0] 71)).drew := (k0.trans hk1).trans kz
        go_region_with (first | (go_at_call 34; refine (hNm _).mono ?_; rintro e wx ⟨rfl, rfl⟩) | (go_at_call 56; refine (HOA.out _ (by first | exact K1 | exact K1z)).mono ?_; rintro e w2 ⟨cs, ps, v', rfl, hO, hAl, hk2⟩; obtain ⟨ca, cc, rfl, hcc, hAt⟩ := hO.at; first | (have xz2 := xz.kept hk2; have d0 := xz2.cell 0; have d1 := xz2.cell 1; have d2 := xz2.cell 2; have f0 := xz2.frozen 0; have f1 := xz2.frozen 1; have f2 := xz2.frozen 2; clear cd cdz) | (have xy := Cells.new w2 71 #[.int .i64 0, .int .i64 0, .slice none 0 0]; have d0 := xy.cell 0; have d1 := xy.cell 1; have d2 := xy.cell 2; have f0 := xy.frozen 0; have f1 := xy.frozen 1; have f2 := xy.frozen 2; clear cd cdz)))
        all_goals (
          go_wp2_with fail
          go_meet
          first
          | exact ⟨w2.heap.size, ca, cc, ps, v', rfl, Cells.new w2 _ _, hAt.kept (Kept.alloc (Below.refl _ _) _), hAl, Kept.alloc (Kept.trans (Below.refl _ w1).drew hk2) _⟩
          | exact ⟨w1.heap.size, ca, cc, ps, v', rfl, xz2.set3 _ _ _, OwnC.cels (ownsRow_setCell_below (ownsRow_setCell_below (ownsRow_setCell_below hO (by simp) _) (by simp) _) (by simp) _), hAl, (((kz.trans hk2).set (by simp) _).set (by simp) _).set (by simp) _⟩)
      case rest =>
        obtain ⟨B, ca, cc, ps, v', rfl, xB, hAt, hAl, kc0⟩ := hcut
        have hKc := (k0.trans hk1).trans kc0
        have hrd := hAl.round
        have HRd : Hid (roundR zs obj = decide (v' ≠ 0)) := by rw [Hid, roundR, HP.out]; exact hrd
        have hpl := hAl.len
        have cB := xB.cell 2
        have hRo := round_ok wc ca cc zs ps _ v' hAt (by omega) hAl
        clear hrd x1 xd cd K1
        by_cases h0 : v' = 0
        · subst h0
          have HAl : Hid _ := hAl
          have HAt : Hid _ := hAt
          have hdz : decide ((0 : Int) ≠ 0) = false := by decide
          rw [hdz] at hRo
          have ySl := (b0.kept hk1)
          go_wp2_with fail
          refine hRo.mono ?_
          rintro e w3 ⟨rfl, hk3⟩
          have xB3 := xB.kept hk3
          have cB3 := xB3.cell 2
          clear hRo hdz cB
          go_wp2_with fail
          go_loopw [8, 35] (fun nm i wr => ∃ k : Nat, i = .int .i64 k ∧ k ≤ ps.length ∧ OwnS wr w3.heap.size nm (txtsP zs (ps.take k)) ∧ Kept w3 wr) (fun _ i _ => ps.length - (intOf i).toNat)
          case atStart => exact ⟨0, rfl, Nat.zero_le _, World.ownsRow_nil _ _ _ _, Below.refl _ _⟩
          case round =>
            obtain ⟨k, rfl, hk, hO, hK⟩ := hrel
            obtain ⟨na, nc, rfl⟩ := hO.shape
            have HO : Hid _ := hO
            have HK3 : Hid _ := hK
            have kw : Kept w wr := (hKc.trans hk3).trans hK
            by_cases hlt : k < ps.length
            · obtain ⟨p, hp⟩ : ∃ p, ps[k]? = some p := ⟨_, List.getElem?_eq_getElem hlt⟩
              obtain ⟨b, off, rfl, hcr⟩ := ((CelsAt.kept HAt.out hk3).kept hK) k p hp
              have c0 := hcr 0 (by omega)
              have c1 := hcr 1 (by omega)
              have c2 := hcr 2 (by omega)
              have c3 := hcr 3 (by omega)
              simp only [Nat.add_zero] at c0
              have q1 : (k : Int) < (ps.length : Int) := by omega
              obtain ⟨u, hu0, hun, hup⟩ := HAl.out.path.cells HH.out HNX.out p (List.mem_of_getElem? hp)
              obtain ⟨p', m, t, e1, e2, e3, e4, e5, e6, e7, e8, e9, e10, e11⟩ := cell_name HH.out hun hu0
              obtain rfl : p' = p := e1.symm.trans hup
              have hNm2 := fun (x : World) => impl_Num_ok (hz zs (p' + 1)) x e6 e7
              rw [e5] at hNm2
              have HRT : Hid _ := fun (x : World) (hx : Kept w x) => readText_ok x ao cap zs m t (Ints.kept HI.out hx) hl e9 (by omega) e10
              rw [← e11] at HRT
              have xbx := Cells.new wr 75 (celC zs p')
              have kA : Kept wr (wr.alloc (.cells (celC zs p') 75)) := Kept.alloc (Below.refl _ _) _
              have ySw := (((b0.kept hk1).kept kc0).kept hk3).kept hK
              clear e1 e2 e3 e4 e5 e8 e9 e10 e11 hcr hun hup hu0
              have hOb2 := OwnS.block HO.out
              have hs3 := hK.size
              have hsw := (hKc.trans hk3).size
              have ag : (Value.slice na (txtsP zs (ps.take k)).length nc).ownBlock ≠ some w.heap.size := fun e => by have := hOb2 _ e; have := xB3.lt; have := ySl.lt; have := kc0.size; have := hk3.size; omega
              have ak : (Value.slice na (txtsP zs (ps.take k)).length nc).ownBlock ≠ some wr.heap.size := fun e => by have := hOb2 _ e; omega
              have kdr : Kept wr (wr.alloc (.cells (celC zs p') 75)).drew := kA.drew
              have kwd := kw.trans kdr
              have oA := OwnS.kept HO.out kdr
              have lz : w.heap.size < wr.heap.size := by have := ySw.lt; omega
              have hlk : (txtsP zs (ps.take k)).length ≤ 1048576 := by rw [txtsP_len, List.length_take]; omega
              have cS := (ySw.kept kA).cell 0
              have cN := xbx.cell 1
              have HP' : Hid _ := hp
              have HNM : Hid _ := hNm2
              clear hOb2
              go_wp2_with fail
              go_region_held3 (fun w' => w'.cell? ⟨w.heap.size, 0, none⟩ = some (.slice ao zs.length cap) ∧ w'.cell? ⟨wr.heap.size, 1, none⟩ = some (.int .i64 (hz zs (p' + 1))))
                (first
                  | go_keep
                  | (go_split_ands
                     refine ⟨?_, ?_⟩
                     · (rw [hk4.cell (p := ⟨w.heap.size, 0, none⟩) (by simp; omega)]; assumption)
                     · (rw [hk4.cell (p := ⟨wr.heap.size, 1, none⟩) (by simp)]; assumption))
                  | (go_split_ands
                     refine ⟨?_, ?_⟩
                     · (rw [hgrow.cell_far _ (by simp at hs4 ⊢; omega) (Ne.symm ag)]; assumption)
                     · (rw [hgrow.cell_far _ (by simp at hs4 ⊢; omega) (Ne.symm ak)]; assumption)))
                (first
                  | (go_at_call 34; refine (HNM.out _).mono ?_; rintro e wx ⟨rfl, rfl⟩)
                  | (go_at_call 49; refine (HRT.out _ kwd).mono ?_; rintro e w4 ⟨rfl, hk4⟩; have hs4 := hk4.size)
                  | (refine step_append_lies _ (by rfl) _ _ _ (by rfl) w3.heap.size 9 i0 _ 1 16 Tryz.underlying43 hi hz0 hz1 hz2 rfl (by omega) (.slice na (txtsP zs (ps.take k)).length nc) (txtsP zs (ps.take k)).length ((txtsP zs (ps.take k)).map Value.string) (by rfl) (World.ownsRow.alloc (OwnS.kept oA hk4) _) ⟨w4.heap.size, 0, none⟩ 1 1 [.string (txtP zs (hz zs (p' + 1)))] (by rfl) (by rfl) (cell_one_new _ _ _) (by simp [Value.oneCell']) (by omega) (by unfold maxLen; omega) (by omega) (by simp at hs4 ⊢; omega) (w4.heap.size + 1) (by simp) ?_; intro gg cg w5 hown1 hgrow hat hlt5))
              go_wp2_with fail
              go_roundw
              case rel =>
                have et : ps.take (k + 1) = ps.take k ++ [p'] := by rw [List.take_add_one, HP'.out]; rfl
                have eo : OwnS w5 w3.heap.size (.slice (some ⟨gg, 0, none⟩) ((txtsP zs (ps.take k)).length + 1) cg) (txtsP zs (ps.take (k + 1))) := by
                  unfold OwnS
                  rw [show (txtsP zs (ps.take (k + 1))).length = (txtsP zs (ps.take k)).length + 1 by rw [et]; simp [txtsP], et, txtsP_snoc]
                  exact hown1
                exact ⟨k + 1, by go_num, by omega, eo, Below.grown (Kept.alloc (Kept.trans (Kept.trans HK3.out kdr) hk4) _) hgrow (by have := Below.size HK3.out; simp at hs4 ⊢; omega) (fun j e => (OwnS.block HO.out j e).1)⟩
              case measure => simp [intOf]; omega
            · obtain rfl : k = ps.length := by omega
              clear hO hK
              go_wp2_with fail
              go_ret
              exact ⟨_, ps.take ps.length, rfl, OwnS.base HO.out (by have := (hKc.trans hk3).size; omega), .inr ⟨by rw [HR.out, HRd.out]; rfl, by rw [HP.out, List.take_length]; exact HAl.out.path⟩, by rw [List.take_length]; omega, (hKc.trans hk3).trans HK3.out⟩
        · have hdz : decide (v' ≠ 0) = true := by simpa using h0
          rw [hdz] at hRo
          go_wp2_with fail
          refine hRo.mono ?_
          rintro e w3 ⟨rfl, hk3⟩
          go_wp2_with fail
          go_ret
          exact ⟨_, [], rfl, nil _, .inl ⟨by rw [HR.out, HRd.out, hdz]; rfl, rfl⟩, by simp, hKc.trans hk3⟩
end Go.Proofs.YtpbafjcoomfooaaGreat
namespace Go.Proofs.YtpbafjcoomfooaaGreat
open Go.RowKit

theorem names_is {zs : List Int} {obj : Int} : namesR zs obj = (isR zs [obj] 5 && !roundR zs obj) := by
  unfold namesR isR isOb
  rw [roots1, show hz [obj] 0 = obj from rfl]
  by_cases h5 : obj % 8 = 5
  · rw [leads_any (v := obj) (by omega) 5 0]
    simp [h5]
  · simp [h5]
/-- Behind so many cells. -/
theorem Path.step {zs : List Int} {ps : List Nat} {v v' : Int} {k p : Nat} (h : Path zs v (ps.drop k) v') (hp : ps[k]? = some p) : v ≠ 0 ∧ plc v = p ∧ Path zs (hz zs (p + 3)) (ps.drop (k + 1)) v' := by
  obtain ⟨hk, e⟩ := List.getElem?_eq_some_iff.1 hp
  rw [List.drop_eq_getElem_cons hk, e] at h
  exact h

set_option maxHeartbeats 8000000 in
set_option maxRecDepth 100000 in
theorem spec_Names_ok (w : World) (ao : Option Addr) (cap : Nat) (zs : List Int) (obj : Int) (hI : Ints w ao zs) (hl : zs.length ≤ 1048576) (ho : -9223372036854775808 ≤ obj ∧ obj ≤ 9223372036854775807) :
    Calls Tryz.prog 23 #[.agg #[.slice ao zs.length cap], .int .i64 obj] w fun e w' => ∃ v ps, e = .returned v ∧ OwnS w' w.heap.size v (txtsP zs ps) ∧ ((namesR zs obj = false ∧ ps = []) ∨ (namesR zs obj = true ∧ Path zs (hz zs (plc obj + 2)) ps 0)) ∧ Kept w w' := by
  obtain ⟨i0, hi, hz0, hz1, hz2⟩ := info_parts infoS
  have b0 := (Cells.new w 26 #[.slice ao zs.length cap]).alloc (.cells #[] 9)
  have k0 : Kept w ((w.alloc (.cells #[.slice ao zs.length cap] 26)).alloc (.cells #[] 9)) := (Kept.alloc (Below.refl _ _) _).alloc _
  have o0 : OwnS ((w.alloc (.cells #[.slice ao zs.length cap] 26)).alloc (.cells #[] 9)) (w.heap.size + 1) (.slice (some ⟨w.heap.size + 1, 0, none⟩) 0 0) (txtsP zs []) := by
    have := World.ownsRow_made (base := w.heap.size + 1) (e := 9) (size := 1) (w.alloc (.cells #[.slice ao zs.length cap] 26)) #[] 0 (by simp) (by unfold maxLen; omega) (by simp)
    simpa [OwnS, txtsP] using this
  have hL := l5Is_at _ ao cap zs [obj] 1 5 #[.int .i64 obj] rfl rfl (by simpa using ho) (by omega) (by omega) (hI.kept k0) hl
  simp only [World.size_alloc] at hL
  have c0 := b0.cell 0
  have c0' := (b0.alloc (.cells #[.int .i64 obj] 3)).cell 0
  cases hr : isR zs [obj] 5 with
  | false =>
    have HR : Hid (namesR zs obj = false) := by simp [Hid, names_is, hr]
    rw [hr] at hL
    have HO : Hid _ := o0
    clear hr hI o0
    go_enter Tryz.func23, Tryz.ntmps23
    go_wp2_with (first | (go_at_call 61; refine hL.mono ?_; rintro e w1 ⟨rfl, hk1⟩))
    go_ret
    exact ⟨_, [], rfl, (OwnS.kept HO.out hk1).base (by omega), .inl ⟨HR.out, rfl⟩, k0.trans hk1⟩
  | true =>
    rw [hr] at hL
    obtain ⟨hh, h5, hle5⟩ := isR_facts hr
    have hv := hle5 0 (by simp)
    have h5' : obj % 8 = 5 := h5
    have HRo : Hid _ := fun (u : World) (hu : Kept w u) => l5Round_ok u ao cap zs obj (hI.kept hu) hl hh h5' hv
    cases hrd : roundR zs obj with
    | true =>
      have HR : Hid (namesR zs obj = false) := by simp [Hid, names_is, hrd]
      rw [hrd] at HRo
      have HO : Hid _ := o0
      clear hr hI o0 hrd hh h5 hle5 hv h5'
      go_enter Tryz.func23, Tryz.ntmps23
      go_wp2_with (first | (go_at_call 61; refine hL.mono ?_; rintro e w1 ⟨rfl, hk1⟩; have d0 := (b0.kept hk1).cell 0) | (go_at_call 62; refine (HRo.out _ (k0.trans hk1)).mono ?_; rintro e w2 ⟨rfl, hk2⟩))
      go_ret
      exact ⟨_, [], rfl, ((OwnS.kept HO.out hk1).kept hk2).base (by omega), .inl ⟨HR.out, rfl⟩, (k0.trans hk1).trans hk2⟩
    | false =>
      obtain ⟨a, s, ha, hle, hs, _, _, hnx⟩ := obj_facts hh h5' hv
      have hpl := plc_is ha
      have hch : chase zs zs.length (hz zs (a + 2)) = 0 := by
        have := hrd
        unfold roundR at this
        rw [hpl] at this
        simpa using this
      obtain ⟨ps, hpn, hpath⟩ := chase_path _ _ hch
      have HR : Hid (namesR zs obj = true) := by rw [Hid, names_is, hr, hrd]; rfl
      have HP : Hid (plc obj = a) := hpl
      have HH : Hid _ := hh
      have HI : Hid _ := hI
      have HPa : Hid _ := hpath
      have HO : Hid _ := o0
      have HX : Hid _ := hnx
      rw [hrd] at HRo
      have hNm := fun (u : World) => spec_Num_ok obj u
      rw [ha] at hNm
      obtain ⟨bb, off, rfl, hc⟩ := hI.at (k := a + 2) (by omega)
      have ca := hc (a + 2) (by omega)
      have hbl : bb < w.heap.size := World.block_lt_of_cell? _ _ ca
      have HC : Hid _ := hc
      have p1 : (a : Int) + 2 < (zs.length : Int) := by omega
      have t1 : ((a : Int) + 2).toNat = a + 2 := by omega
      have z1 : (0 : Int) ≤ (a : Int) + 2 := by omega
      have wr1 : IntKind.i64.wrap ((a : Int) + 2) = (a : Int) + 2 := by rw [IntWalk.i64_left, IntWalk.wrap64_in _ (by omega)]
      clear hr hI o0 hrd hh h5 hle5 hv h5' hch hpath hnx hpl ha hc
      go_enter Tryz.func23, Tryz.ntmps23
      go_wp2_with (first | (go_at_call 61; refine hL.mono ?_; rintro e w1 ⟨rfl, hk1⟩; have d0 := (b0.kept hk1).cell 0) | (go_at_call 62; refine (HRo.out _ (k0.trans hk1)).mono ?_; rintro e w2 ⟨rfl, hk2⟩))
      have K2 := (k0.trans hk1).trans hk2
      have b2 := (b0.kept hk1).kept hk2
      have cs2 := b2.cell 0
      have ca2 := (K2.cell (p := ⟨bb, off + (a + 2), none⟩) hbl).trans ca
      have O2 := (OwnS.kept HO.out hk1).kept hk2
      go_region_held3 (fun w' => w'.cell? ⟨w.heap.size, 0, none⟩ = some (.slice (some ⟨bb, off, none⟩) zs.length cap) ∧ w'.cell? ⟨bb, off + (a + 2), none⟩ = some (.int .i64 (hz zs (a + 2)))) (go_keep) ((go_at_call 53; refine (hNm _).mono ?_; rintro e wx ⟨rfl, rfl⟩))
      have hs2 := K2.size
      have hs2' : w.heap.size + 2 ≤ w2.heap.size := by have := hk1.size; have := hk2.size; simp at *; omega
      clear d0 ca2 cs2
      go_wp2_with fail
      go_loopw [5, 6] (fun nm lk wr => ∃ (k : Nat) (v' : Int), lk = .int .i64 v' ∧ k ≤ ps.length ∧ Path zs v' (ps.drop k) 0 ∧ nextR zs v' 3 = true ∧ OwnS wr (w.heap.size + 1) nm (txtsP zs (ps.take k)) ∧ Below (w.heap.size + 1) w2.drew wr ∧ w.heap.size + 1 ≤ wr.heap.size) (fun nm _ _ => ps.length - lenV nm)
      case atStart => exact ⟨0, _, rfl, Nat.zero_le _, HPa.out, HX.out, O2.kept (Below.refl _ _).drew, Below.refl _ _, by simp; omega⟩
      case round =>
        obtain ⟨k, v', rfl, hk, hp', hn', hO, hB, hsz⟩ := hrel
        obtain ⟨na, nc, rfl⟩ := hO.shape
        have HO2 : Hid _ := hO
        have HB : Hid _ := hB
        have kw : Kept w wr := Below.trans K2.drew (hB.mono (by omega))
        have bS : Cells wr w.heap.size 26 #[.slice (some ⟨bb, off, none⟩) zs.length cap] := (hB.block w.heap.size (by omega)).trans (b2.kept (Below.refl _ _).drew)
        have cS := bS.cell 0
        have HLk : Hid ((txtsP zs (ps.take k)).length = k) := by rw [Hid, txtsP_len, List.length_take]; omega
        have hlk : (txtsP zs (ps.take k)).length ≤ 1048576 := by rw [HLk.out]; omega
        by_cases h0 : v' = 0
        · subst h0
          have hkk : k = ps.length := by
            rcases Nat.lt_or_ge k ps.length with h | h
            · have hd := List.drop_eq_getElem_cons h
              rw [hd] at hp'
              exact absurd rfl hp'.1
            · omega
          subst hkk
          clear hp' hn' hO hB
          go_wp2_with fail
          go_ret
          exact ⟨_, ps.take ps.length, rfl, OwnS.base HO2.out (by omega), .inr ⟨HR.out, by rw [HP.out, List.take_length]; exact HPa.out⟩, kw⟩
        · have hlt : k < ps.length := by
            rcases Nat.lt_or_ge k ps.length with h | h
            · exact h
            · rw [List.drop_eq_nil_of_le h] at hp'
              exact absurd (show (0 : Int) = v' from hp').symm h0
          obtain ⟨p, hp⟩ : ∃ p, ps[k]? = some p := ⟨_, List.getElem?_eq_getElem hlt⟩
          obtain ⟨_, hpp, hpn⟩ := hp'.step hp
          obtain ⟨p', m, t, e1, e2, e3, e4, e5, e6, e7, e8, e9, e10, e11⟩ := cell_name HH.out hn' h0
          obtain rfl : p' = p := e1.symm.trans hpp
          have HNa : Hid (∀ u : World, Calls Tryz.prog 53 #[.int .i64 v'] u fun e w' => e = .returned (.int .i64 (p' : Int)) ∧ u = w') := fun u => by have := spec_Num_ok v' u; rw [e2] at this; exact this
          have HNb : Hid (∀ u : World, Calls Tryz.prog 53 #[.int .i64 (hz zs (p' + 1))] u fun e w' => e = .returned (.int .i64 (m : Int)) ∧ u = w') := fun u => by have := spec_Num_ok (hz zs (p' + 1)) u; rw [e5] at this; exact this
          have HL4 : Hid (∀ u : World, Kept w u → Calls Tryz.prog 52 #[.agg #[.slice (some ⟨bb, off, none⟩) zs.length cap], .int .i64 (m : Int)] u fun e w' => e = .returned (.string (txtP zs (hz zs (p' + 1)))) ∧ Kept u w') := fun u hu => by rw [e11]; exact l4Bytes_ok u _ cap zs m (t + 2) t (Ints.kept HI.out hu) hl (by omega) e9 (by omega) e10
          have hne : (v' != 0) = true := by simpa using h0
          have q1 : (p' : Int) + 1 < (zs.length : Int) := by omega
          have q3 : (p' : Int) + 3 < (zs.length : Int) := by omega
          have z1' : (0 : Int) ≤ (p' : Int) + 1 := by omega
          have z3 : (0 : Int) ≤ (p' : Int) + 3 := by omega
          have r1 : ((p' : Int) + 1).toNat = p' + 1 := by omega
          have r3 : ((p' : Int) + 3).toNat = p' + 3 := by omega
          have s1 : IntKind.i64.wrap ((p' : Int) + 1) = (p' : Int) + 1 := by rw [IntWalk.i64_left, IntWalk.wrap64_in _ (by omega)]
          have s3 : IntKind.i64.wrap ((p' : Int) + 3) = (p' : Int) + 3 := by rw [IntWalk.i64_left, IntWalk.wrap64_in _ (by omega)]
          have g1 := (kw.cell (p := ⟨bb, off + (p' + 1), none⟩) hbl).trans (HC.out (p' + 1) (by omega))
          have hOb2 := OwnS.block hO
          have ag : (Value.slice na (txtsP zs (ps.take k)).length nc).ownBlock ≠ some w.heap.size := fun e => by have := hOb2 _ e; omega
          have ak : (Value.slice na (txtsP zs (ps.take k)).length nc).ownBlock ≠ some bb := fun e => by have := hOb2 _ e; omega
          have kdr : Kept wr wr.drew := (Below.refl _ _).drew
          have kwd := kw.trans kdr
          have oA := hO.kept kdr
          have HP' : Hid _ := hp
          have HPn : Hid _ := hpn
          have HN4 : Hid _ := e4
          have HC3 : Hid _ := HC.out (p' + 3) (by omega)
          clear e1 e2 e3 e4 e5 e6 e7 e8 e9 e10 e11 hp' hn' hp hpp hpn hOb2 hO hB
          go_wp2_with fail
          go_region_held3 (fun w' => w'.cell? ⟨w.heap.size, 0, none⟩ = some (.slice (some ⟨bb, off, none⟩) zs.length cap) ∧ w'.cell? ⟨bb, off + (p' + 1), none⟩ = some (.int .i64 (hz zs (p' + 1))))
            (first
              | go_keep
              | (go_split_ands
                 refine ⟨?_, ?_⟩
                 · (rw [hk4.cell (p := ⟨w.heap.size, 0, none⟩) (by simp; omega)]; assumption)
                 · (rw [hk4.cell (p := ⟨bb, off + (p' + 1), none⟩) (by simp; omega)]; assumption))
              | (go_split_ands
                 refine ⟨?_, ?_⟩
                 · (rw [hgrow.cell_far _ (by simp at hs4 ⊢; omega) (Ne.symm ag)]; assumption)
                 · (rw [hgrow.cell_far _ (by simp at hs4 ⊢; omega) (Ne.symm ak)]; assumption)))
            (first
              | (go_at_call 53; refine (HNa.out _).mono ?_; rintro e wx ⟨rfl, rfl⟩)
              | (go_at_call 53; refine (HNb.out _).mono ?_; rintro e wx ⟨rfl, rfl⟩)
              | (go_at_call 52; refine (HL4.out _ kwd).mono ?_; rintro e w4 ⟨rfl, hk4⟩; have hs4 := hk4.size)
              | (refine step_append_lies _ (by rfl) _ _ _ (by rfl) (w.heap.size + 1) 9 i0 _ 1 16 Tryz.underlying43 hi hz0 hz1 hz2 rfl (by omega) (.slice na (txtsP zs (ps.take k)).length nc) (txtsP zs (ps.take k)).length ((txtsP zs (ps.take k)).map Value.string) (by rfl) (World.ownsRow.alloc (OwnS.kept oA hk4) _) ⟨w4.heap.size, 0, none⟩ 1 1 [.string (txtP zs (hz zs (p' + 1)))] (by rfl) (by rfl) (cell_one_new _ _ _) (by simp [Value.oneCell']) (by omega) (by unfold maxLen; omega) (by omega) (by simp at hs4 ⊢; omega) (w4.heap.size + 1) (by simp) ?_; intro gg cg w5 hown1 hgrow hat hlt5))
          have hB5 : Below (w.heap.size + 1) wr w5 := Below.grown (Below.alloc (Below.trans ((Below.refl _ wr).drew) (hk4.mono (by simp; omega))) (by simp at hs4; omega) _) hgrow (by simp at hs4 ⊢; omega) (fun j e => (OwnS.block HO2.out j e).1)
          have bS5 : Cells w5 w.heap.size 26 #[.slice (some ⟨bb, off, none⟩) zs.length cap] := (hB5.block w.heap.size (by omega)).trans bS
          have cS5 := bS5.cell 0
          have g3 : w5.cell? ⟨bb, off + (p' + 3), none⟩ = some (.int .i64 (hz zs (p' + 3))) := (hB5.cell (p := ⟨bb, off + (p' + 3), none⟩) (by simp; omega)).trans ((kw.cell (p := ⟨bb, off + (p' + 3), none⟩) hbl).trans HC3.out)
          clear cS g1 kwd kdr oA
          go_wp2_with fail
          go_region_held3 (fun w' => w'.cell? ⟨w.heap.size, 0, none⟩ = some (.slice (some ⟨bb, off, none⟩) zs.length cap) ∧ w'.cell? ⟨bb, off + (p' + 3), none⟩ = some (.int .i64 (hz zs (p' + 3)))) (go_keep) ((go_at_call 53; refine (HNa.out _).mono ?_; rintro e wx ⟨rfl, rfl⟩))
          go_wp2_with fail
          go_roundw
          case rel =>
            have et : ps.take (k + 1) = ps.take k ++ [p'] := by rw [List.take_add_one, HP'.out]; rfl
            have eo : OwnS w5 (w.heap.size + 1) (.slice (some ⟨gg, 0, none⟩) ((txtsP zs (ps.take k)).length + 1) cg) (txtsP zs (ps.take (k + 1))) := by
              unfold OwnS
              rw [show (txtsP zs (ps.take (k + 1))).length = (txtsP zs (ps.take k)).length + 1 by rw [et]; simp [txtsP], et, txtsP_snoc]
              exact hown1
            exact ⟨k + 1, _, rfl, by omega, HPn.out, HN4.out, eo.kept (Below.refl _ _).drew, (Below.trans HB.out hB5).drew, by have := hB5.size; simp; omega⟩
          case measure => simp only [lenV]; rw [HLk.out]; omega
end Go.Proofs.YtpbafjcoomfooaaGreat
namespace Go.Proofs.YtpbafjcoomfooaaGreat
open Go.RowKit

/-- The texts ts lie at ao. -/
def StrA (W : World) (ao : Option Addr) (ts : List ByteArray) : Prop := ∀ j t, ts[j]? = some t → ∃ b off, ao = some ⟨b, off, none⟩ ∧ W.cell? ⟨b, off + j, none⟩ = some (.string t)
theorem StrA.kept {W W' : World} {ao : Option Addr} {ts : List ByteArray} (h : StrA W ao ts) (hk : Kept W W') : StrA W' ao ts := by
  intro j t ht
  obtain ⟨b, off, e, hc⟩ := h j t ht
  exact ⟨b, off, e, (hk.cell (p := ⟨b, off + j, none⟩) (World.block_lt_of_cell? _ _ hc)).trans hc⟩
theorem OwnS.at {W : World} {base : Nat} {v : Value} {ts : List ByteArray} (h : OwnS W base v ts) : ∃ ao cap, v = .slice ao ts.length cap ∧ StrA W ao ts := by
  have h' := h
  rcases h.2 with ⟨rfl, hn⟩ | ⟨g, cap, cur, rfl, hb, hg, h1, _⟩
  · exact ⟨none, 0, by rw [hn], fun j t ht => by rw [List.length_eq_zero_iff.1 hn] at ht; simp at ht⟩
  · refine ⟨_, cap, rfl, fun j t ht => ⟨g, 0, rfl, ?_⟩⟩
    have h3 := World.ownsRow.cells h' (g := g) rfl j (.string t) (by rw [List.getElem?_map, ht]; rfl)
    rw [show (⟨g, 0, none⟩ : Addr).add j = ⟨g, 0 + j, none⟩ by unfold Addr.add; split <;> simp_all] at h3
    exact h3

theorem conv_one (W : World) (x : Int) : (convert 22 9 (.slice (some ⟨W.heap.size, 0, none⟩) 1 1)).run Tryz.prog (W.alloc (.cells #[.int .u8 x] 5)) = .ok (.string (strOfNums [x])) (W.alloc (.cells #[.int .u8 x] 5)) := conv_row (cap := 1) (xs := [x]) (Cells.new W 5 #[.int .u8 x])
theorem str_one (x : Int) : (strOfNums [x]).size = 1 := rfl
def digF : Nat → Nat → ByteArray → ByteArray
  | 0, _, out => out
  | f + 1, n, out => if n = 0 then out else digF f (n / 10) (strOfNums [48 + (n : Int) % 10] ++ out)
def mkT (k : Nat) : ByteArray := (⟨#[109]⟩ : ByteArray) ++ digF k k ⟨#[]⟩
def marksS (n : Nat) : List ByteArray := (List.range n).map (fun i => mkT (i + 1))
theorem marksS_len (n : Nat) : (marksS n).length = n := by simp [marksS]
theorem marksS_at {n j : Nat} (h : j < n) : (marksS n)[j]? = some (mkT (j + 1)) := by simp [marksS, h]
def mixS (ts : List ByteArray) (k : Nat) : List ByteArray := marksS k ++ ts.drop k
theorem mixS_len {ts : List ByteArray} {k : Nat} (h : k ≤ ts.length) : (mixS ts k).length = ts.length := by simp [mixS, marksS_len]; omega
theorem mixS_zero (ts : List ByteArray) : mixS ts 0 = ts := by simp [mixS, marksS]
theorem mixS_all (ts : List ByteArray) : mixS ts ts.length = marksS ts.length := by simp [mixS]
theorem mixS_succ {ts : List ByteArray} {k : Nat} (h : k < ts.length) : (mixS ts k).set k (mkT (k + 1)) = mixS ts (k + 1) := by
  apply List.ext_getElem?
  intro j
  rw [List.getElem?_set, mixS_len (by omega)]
  unfold mixS
  by_cases e : k = j
  · subst e
    rw [if_pos rfl, if_pos h, List.getElem?_append_left (by rw [marksS_len]; omega), marksS_at (by omega)]
  · rw [if_neg e]
    by_cases h2 : j < k
    · rw [List.getElem?_append_left (by rw [marksS_len]; omega), List.getElem?_append_left (by rw [marksS_len]; omega), marksS_at h2, marksS_at (by omega)]
    · rw [List.getElem?_append_right (by rw [marksS_len]; omega), List.getElem?_append_right (by rw [marksS_len]; omega), marksS_len, marksS_len, List.getElem?_drop, List.getElem?_drop]
      rw [show k + (j - k) = j by omega, show k + 1 + (j - (k + 1)) = j by omega]
/-- The texts ts stand at the head of the block g. -/
def RowS (W : World) (g : Nat) (ts : List ByteArray) : Prop := ∃ cur : Array Value, W.heap[g]? = some (.cells cur 9 (0, 0)) ∧ ts.length ≤ cur.size ∧ ∀ (j : Nat) (t : ByteArray), ts[j]? = some t → cur[j]? = some (Value.string t)
theorem RowS.lt {W : World} {g : Nat} {ts : List ByteArray} (h : RowS W g ts) : g < W.heap.size := by
  obtain ⟨_, h, _⟩ := h
  exact (Array.getElem?_eq_some_iff.1 h).1
theorem RowS.kept {W W' : World} {g : Nat} {ts : List ByteArray} (h : RowS W g ts) (hk : Kept W W') : RowS W' g ts := by
  have hlt := h.lt
  obtain ⟨cur, h1, h2⟩ := h
  exact ⟨cur, (hk.block g hlt).trans h1, h2⟩
theorem RowS.strA {W : World} {g : Nat} {ts : List ByteArray} (h : RowS W g ts) : StrA W (some ⟨g, 0, none⟩) ts := by
  obtain ⟨cur, h1, _, h3⟩ := h
  exact fun j t ht => ⟨g, 0, rfl, by simp [World.cell?, h1, h3 j t ht]⟩
theorem RowS.there {W : World} {g j : Nat} {ts : List ByteArray} (h : RowS W g ts) (hj : j < ts.length) : (∃ t, W.cell? ⟨g, j, none⟩ = some (.string t)) ∧ W.frozen? ⟨g, j, none⟩ = false := by
  obtain ⟨cur, h1, _, h3⟩ := h
  refine ⟨⟨ts[j], ?_⟩, ?_⟩
  · have := h3 j ts[j] (List.getElem?_eq_getElem hj)
    simp [World.cell?, h1, this]
  · simp [World.frozen?, h1]
theorem RowS.set {W : World} {g k : Nat} {ts : List ByteArray} (h : RowS W g ts) (hk : k < ts.length) (t : ByteArray) : RowS (W.setCell ⟨g, k, none⟩ (.string t)) g (ts.set k t) := by
  obtain ⟨cur, h1, h2, h3⟩ := h
  refine ⟨cur.setIfInBounds k (.string t), Cells.set k (.string t) h1, by simpa using h2, fun j u hu => ?_⟩
  rw [List.getElem?_set] at hu
  rw [Array.getElem?_setIfInBounds]
  by_cases e : k = j
  · subst e
    rw [if_pos rfl, if_pos hk] at hu
    cases hu
    rw [if_pos rfl, if_pos (by omega)]
  · rw [if_neg e] at hu ⊢
    exact h3 j u hu
end Go.Proofs.YtpbafjcoomfooaaGreat
namespace Go.Proofs.YtpbafjcoomfooaaGreat
open Go.RowKit

theorem OwnS.grown {W W' : World} {base : Nat} {v : Value} {ts : List ByteArray} {row : Option Nat} (h : OwnS W base v ts) (hg : W.grownBy W' row) (hne : ∀ k, row = some k → ∀ j, v.ownBlock = some j → j ≠ k) : OwnS W' base v ts := by
  refine World.ownsRow.kept h hg ?_
  cases hv : v.ownBlock with
  | none => exact .inl rfl
  | some j =>
    right
    intro e
    exact hne j e.symm j hv rfl
theorem OwnS.strs {W : World} {base c : Nat} {a : Option Addr} {n : Nat} {ts : List ByteArray} (h : OwnS W base (.slice a n c) ts) : StrA W a ts := by
  obtain ⟨_, _, e, h'⟩ := h.at
  cases e
  exact h'
theorem Names_both (zs : List Int) (obj : Int) (hl : zs.length ≤ 1048576) (ho : -9223372036854775808 ≤ obj ∧ obj ≤ 9223372036854775807) : ∃ ts : List ByteArray, ts.length ≤ 1048576 ∧
    (∀ (w : World) (ao : Option Addr) (cap : Nat), Ints w ao zs → Calls Tryz.prog 22 #[.agg #[.slice ao zs.length cap], .int .i64 obj] w fun e w' => ∃ v, e = .returned v ∧ OwnS w' w.heap.size v ts ∧ Kept w w') ∧
    (∀ (w : World) (ao : Option Addr) (cap : Nat), Ints w ao zs → Calls Tryz.prog 23 #[.agg #[.slice ao zs.length cap], .int .i64 obj] w fun e w' => ∃ v, e = .returned v ∧ OwnS w' w.heap.size v ts ∧ Kept w w') := by
  cases hn : namesR zs obj with
  | false =>
    refine ⟨txtsP zs [], by simp [txtsP], fun w ao cap hI => ?_, fun w ao cap hI => ?_⟩
    · refine (impl_Names_ok w ao cap zs obj hI hl ho).mono ?_
      rintro e w' ⟨v, ps, rfl, hO, hps, _, hk⟩
      rcases hps with ⟨_, rfl⟩ | ⟨h, _⟩
      · exact ⟨v, rfl, hO, hk⟩
      · rw [hn] at h; cases h
    · refine (spec_Names_ok w ao cap zs obj hI hl ho).mono ?_
      rintro e w' ⟨v, ps, rfl, hO, hps, hk⟩
      rcases hps with ⟨_, rfl⟩ | ⟨h, _⟩
      · exact ⟨v, rfl, hO, hk⟩
      · rw [hn] at h; cases h
  | true =>
    have hrd : roundR zs obj = false := by
      unfold namesR at hn
      simp only [Bool.and_eq_true, Bool.not_eq_true'] at hn
      exact hn.2
    have hch : chase zs zs.length (hz zs (plc obj + 2)) = 0 := by
      unfold roundR at hrd
      simpa using hrd
    obtain ⟨ps, hpn, hpath⟩ := chase_path _ _ hch
    refine ⟨txtsP zs ps, by rw [txtsP_len]; omega, fun w ao cap hI => ?_, fun w ao cap hI => ?_⟩
    · refine (impl_Names_ok w ao cap zs obj hI hl ho).mono ?_
      rintro e w' ⟨v, qs, rfl, hO, hqs, _, hk⟩
      rcases hqs with ⟨h, _⟩ | ⟨_, h⟩
      · rw [hn] at h; cases h
      · rw [hpath.det h]; exact ⟨v, rfl, hO, hk⟩
    · refine (spec_Names_ok w ao cap zs obj hI hl ho).mono ?_
      rintro e w' ⟨v, qs, rfl, hO, hqs, hk⟩
      rcases hqs with ⟨h, _⟩ | ⟨_, h⟩
      · rw [hn] at h; cases h
      · rw [hpath.det h]; exact ⟨v, rfl, hO, hk⟩
end Go.Proofs.YtpbafjcoomfooaaGreat
