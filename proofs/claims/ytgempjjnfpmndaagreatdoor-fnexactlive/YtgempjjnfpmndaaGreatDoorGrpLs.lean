/-
  Whether numbers ascend: slices.IsSorted of integers.
  The contract of listsOk (chapter 8's program): the lists of a marker are places of blocks that are not free, each once, the black ones ascending.
  The contract of blacksOk (chapter 8's program): each black block is right.
  The contract of sweptTo (chapter 8's program): a place of a block, or the end, and all blocks ahead of it are free or black.
-/
import Derived.Deep.QuietTactic
import Derived.BigQuiet
import Derived.Test.YtgempjjnfpmndaaGreatDoorGrpCo
import Derived.Test.YtgempjjnfpmndaaGreatDoorHelpL
import Derived.Test.YtgempjjnfpmndaaGreatDoorGrpSy
import Derived.Test.YtgempjjnfpmndaaGreatDoorGrpMa
import Derived.Test.YtgempjjnfpmndaaGreatDoorGrpSq
namespace Go.Proofs.YtgempjjnfpmndaaGreatDoor
open Go.RowKit

set_option maxHeartbeats 4000000 in
theorem less_ok (w : World) (x y : Int) : Calls Tryz.prog 171 #[.int .i64 x, .int .i64 y] w fun e w' => e = .returned (.bool (decide (x < y))) ∧ w' = w := by
  obtain ⟨r, hr⟩ : ∃ r, decide (x < y) = r := ⟨_, rfl⟩
  rw [hr]
  have hN : ∀ (u : World) (z : Int), Calls Tryz.prog 197 #[.int .i64 z] u fun e w' => e = .returned (.bool false) ∧ u = w' := fun u z => by
    go_enter Tryz.func197, Tryz.ntmps197
    go_wp2
    go_ret
    exact ⟨rfl, rfl⟩
  go_enter Tryz.func171, Tryz.ntmps171
  go_wp2_with fail
  refine (hN _ _).mono ?_
  rintro e w1 ⟨rfl, rfl⟩
  go_wp2_with fail
  go_ret
  exact ⟨rfl, rfl⟩
theorem sortB_no {l : List Int} {i : Nat} (hi : i < l.length) (h0 : 0 < i) (h : hz l i < hz l (i - 1)) : sortB l = false := by
  cases hs : sortB l with
  | false => rfl
  | true =>
    have := allR_iff.1 hs i hi
    simp at this
    omega
theorem sortB_yes {l : List Int} (h : ∀ i, 0 < i → i < l.length → hz l (i - 1) ≤ hz l i) : sortB l = true := by
  refine allR_iff.2 fun i hi => ?_
  rcases Nat.eq_zero_or_pos i with h0 | h0
  · simp [h0]
  · have := h i h0 hi
    simp
    omega
set_option maxHeartbeats 4000000 in
set_option maxRecDepth 100000 in
theorem isSorted_ok (w : World) (ao : Option Addr) (cap : Nat) (l : List Int) (hI : Ints w ao l) (hl : l.length ≤ 1048576) :
    Calls Tryz.prog 161 #[.slice ao l.length cap] w fun e w' => e = .returned (.bool (sortB l)) ∧ Kept w w' := by
  have HI : Hid _ := hI
  clear hI
  go_enter Tryz.func161, Tryz.ntmps161
  go_wp2_with fail
  go_loopw [3] (fun i wr => ∃ k : Int, i = .int .i64 k ∧ -1 ≤ k ∧ k + 1 ≤ (l.length : Int) ∧ (∀ j : Nat, 0 < j → k < (j : Int) → j < l.length → hz l (j - 1) ≤ hz l j) ∧ Kept w wr) (fun i _ => (intOf i + 1).toNat)
  case atStart => exact ⟨(l.length : Int) - 1, rfl, by omega, by omega, fun j h0 h1 h2 => by omega, Below.refl _ _⟩
  case round =>
    obtain ⟨k, rfl, hk0, hk, hno, hK⟩ := hrel
    have HN : Hid _ := hno
    have HK : Hid _ := hK
    clear hno
    by_cases hlt : 0 < k
    · obtain ⟨m, rfl⟩ : ∃ m : Nat, k = (m : Int) + 1 := ⟨k.toNat - 1, by omega⟩
      have hn : m + 1 < l.length := by omega
      obtain ⟨b, off, rfl, hc⟩ := Ints.at (Ints.kept HI.out hK) hn
      have c0 := hc (m + 1) hn
      have c1 := hc m (by omega)
      have q1 : (m : Int) + 1 < (l.length : Int) := by omega
      have q0 : (0 : Int) ≤ (m : Int) + 1 := by omega
      have q2 : ((m : Int) + 1).toNat = m + 1 := by omega
      have q3 : (m : Int) < (l.length : Int) := by omega
      have q4 : (0 : Int) ≤ (m : Int) := by omega
      have q5 : IntKind.i64.wrap ((m : Int) + 1 - 1) = (m : Int) := by rw [IntKind.wrap_i64]; omega
      have q6 : (m : Int) + 1 - 1 = (m : Int) := by omega
      have q7 : IntKind.i64.wrap (m : Int) = (m : Int) := by rw [IntKind.wrap_i64]; omega
      have hLs := fun u : World => less_ok u (hz l (m + 1)) (hz l m)
      obtain ⟨x, hx⟩ : ∃ x, hz l (m + 1) = x := ⟨_, rfl⟩
      obtain ⟨y, hy⟩ : ∃ y, hz l m = y := ⟨_, rfl⟩
      rw [hx] at c0 hLs
      rw [hy] at c1 hLs
      have HX : Hid _ := hx
      have HY : Hid _ := hy
      clear hc hK hx hy
      by_cases hxy : x < y
      · rw [decide_eq_true hxy] at hLs
        have HB : Hid (sortB l = false) := sortB_no hn (by omega) (by rw [HX.out, Nat.add_sub_cancel, HY.out]; exact hxy)
        clear hxy
        go_wp2_with fail
        go_quiet ((go_at_call 171; exact Calls.quiet_of_same (hLs _)))
        go_wp2_with fail
        go_ret
        exact ⟨by rw [HB.out]; rfl, kept_drewN HK.out _⟩
      · rw [decide_eq_false hxy] at hLs
        have HB : Hid (hz l (m + 1 - 1) ≤ hz l (m + 1)) := by rw [Hid, Nat.add_sub_cancel, HX.out, HY.out]; omega
        clear hxy
        go_wp2_with fail
        go_quiet ((go_at_call 171; exact Calls.quiet_of_same (hLs _)))
        go_wp2_with fail
        go_roundw
        case rel =>
          refine ⟨(m : Int), by first | rfl | go_num, by omega, by omega, fun j h0 h1 h2 => ?_, kept_drewN HK.out _⟩
          by_cases hj : j = m + 1
          · subst hj; exact HB.out
          · exact HN.out j h0 (by omega) h2
        case measure => simp [intOf]; omega
    · have HB : Hid (sortB l = true) := sortB_yes (fun i h0 h1 => HN.out i h0 (by omega) h1)
      clear hK
      go_wp2_with fail
      go_ret
      exact ⟨by rw [HB.out]; rfl, HK.out⟩
end Go.Proofs.YtgempjjnfpmndaaGreatDoor
namespace Go.Proofs.YtgempjjnfpmndaaGreatDoor
open Go.RowKit Go.Shelf
attribute [local go_sem] Oper.semAt_some

/-- A marking that is read alone. -/
structure MkgR (W : World) (B : Nat) (ao lo : Option Addr) (cap lc : Nat) (zs gs bs : List Int) (gv : Value) : Prop where
  c : Cells W B 123 (mkC (.slice ao zs.length cap) (.slice lo zs.length lc) (colL gs bs) gv)
  ly : Ints W lo (lyt zs)
  ws : Ints W ao zs
theorem MkgR.kept {W W' : World} {B : Nat} {ao lo : Option Addr} {cap lc : Nat} {zs gs bs : List Int} {gv : Value} (h : MkgR W B ao lo cap lc zs gs bs gv) (k : Kept W W') : MkgR W' B ao lo cap lc zs gs bs gv := ⟨h.c.kept k, h.ly.kept k, h.ws.kept k⟩
theorem MkgR.c0 {W : World} {B : Nat} {ao lo : Option Addr} {cap lc : Nat} {zs gs bs : List Int} {gv : Value} (h : MkgR W B ao lo cap lc zs gs bs gv) : W.cell? ⟨B, 0, none⟩ = some (.slice ao zs.length cap) := by rw [h.c.cell 0, mkC_0]
theorem MkgR.c1 {W : World} {B : Nat} {ao lo : Option Addr} {cap lc : Nat} {zs gs bs : List Int} {gv : Value} (h : MkgR W B ao lo cap lc zs gs bs gv) : W.cell? ⟨B, 1, none⟩ = some (.slice lo zs.length lc) := by rw [h.c.cell 1, mkC_1]
theorem MkgR.col {W : World} {B : Nat} {ao lo : Option Addr} {cap lc : Nat} {zs gs bs : List Int} {gv : Value} (h : MkgR W B ao lo cap lc zs gs bs gv) {n : Nat} (hn : n < 2000) : W.cell? ⟨B, 2 + n, none⟩ = some (.int .u8 (colAt gs bs n)) := by rw [h.c.cell, mkC_col (by rw [colL_len]; exact hn), colL_at hn]
theorem col_met {gs bs : List Int} {n : Nat} : (colAt gs bs n ≠ 0) ↔ ((n : Int) ∈ gs ++ bs) := by
  unfold colAt
  by_cases h1 : (n : Int) ∈ bs <;> by_cases h2 : (n : Int) ∈ gs <;> simp [h1, h2]
theorem free_kept (a s q : Int) (w : World) : Calls Tryz.prog 160 #[bkV a s q] w fun e w' => e = .returned (.bool (q == 0)) ∧ Kept w w' := (free_ok a s q w).mono (by rintro e w' ⟨rfl, rfl⟩; exact ⟨rfl, Kept.alloc (Below.refl _ _) _⟩)
set_option maxRecDepth 100000 in
set_option maxHeartbeats 8000000 in
theorem listsOk_ok (w : World) (B : Nat) (ao lo ga ba : Option Addr) (cap lc gc bc : Nat) (zs gs bs : List Int) (ph at' : Int) (gv : Value) (hM : MkgR w B ao lo cap lc zs gs bs gv) (hok : slabOk zs = true) (hg : gs.length ≤ 1048576) (hb : Ints w ba bs) (hbl : bs.length ≤ 1048576) :
    Calls Tryz.prog 126 #[.pointer (some ⟨B, 0, none⟩), .agg (mrkV ph ga gs.length gc ba bs.length bc at')] w fun e w' => e = .returned (.bool (listsR zs gs bs)) ∧ Kept w w' := by
  have hzl := (slabOk_iff.1 hok).1
  have hL : zs.length * 8 ≤ 140737488351232 := by omega
  have hBw := hM.c.lt
  have hm0 := (hM.kept (((Kept.alloc (Below.refl _ w) (.cells #[.pointer (some ⟨B, 0, none⟩)] 159)).alloc (.cells (mrkV ph ga gs.length gc ba bs.length bc at') 40)).alloc (.cells #[.int .i64 0] 3))).c0
  refine (callsIn_wide (n := 3)).1 ?_
  refine callsIn_of_wp_marks Tryz.func126 rfl trivial ?_ rfl
  simp only [Tryz.ntmps126, List.size_toArray, List.length_cons, List.length_nil, Nat.reduceAdd, Nat.reduceSub, Array.replicate_succ, Array.replicate_zero, List.push_toArray, List.append_toArray, List.nil_append, List.cons_append]
  gi_wp2_with (refine ⟨trivial, ?_⟩; gi_at_call 145; refine (callsIn_wide.2 (blocksOf_ok _ _ _ _)).mono ?_; rintro e w' ⟨rfl, rfl⟩)
  have hk0 : Kept w ((((w.alloc (.cells #[.pointer (some ⟨B, 0, none⟩)] 159)).alloc (.cells (mrkV ph ga gs.length gc ba bs.length bc at') 40)).alloc (.cells #[.int .i64 0] 3)).alloc (.cells #[.slice ao zs.length cap] 26)) := (((Kept.alloc (Below.refl _ _) _).alloc _).alloc _).alloc _
  have bP := (((Cells.new w 159 #[.pointer (some ⟨B, 0, none⟩)]).alloc (.cells (mrkV ph ga gs.length gc ba bs.length bc at') 40)).alloc (.cells #[.int .i64 0] 3)).alloc (.cells #[.slice ao zs.length cap] 26)
  have bM := ((Cells.new (w.alloc (.cells #[.pointer (some ⟨B, 0, none⟩)] 159)) 40 (mrkV ph ga gs.length gc ba bs.length bc at')).alloc (.cells #[.int .i64 0] 3)).alloc (.cells #[.slice ao zs.length cap] 26)
  have bE := (Cells.new ((w.alloc (.cells #[.pointer (some ⟨B, 0, none⟩)] 159)).alloc (.cells (mrkV ph ga gs.length gc ba bs.length bc at') 40)) 3 #[.int .i64 0]).alloc (.cells #[.slice ao zs.length cap] 26)
  have bB := Cells.new (((w.alloc (.cells #[.pointer (some ⟨B, 0, none⟩)] 159)).alloc (.cells (mrkV ph ga gs.length gc ba bs.length bc at') 40)).alloc (.cells #[.int .i64 0] 3)) 26 #[.slice ao zs.length cap]
  have hsz : ((((w.alloc (.cells #[.pointer (some ⟨B, 0, none⟩)] 159)).alloc (.cells (mrkV ph ga gs.length gc ba bs.length bc at') 40)).alloc (.cells #[.int .i64 0] 3)).alloc (.cells #[.slice ao zs.length cap] 26)).heap.size = w.heap.size + 4 := by simp
  simp only [World.size_alloc] at bM bE bB
  obtain ⟨W0, hW0⟩ : ∃ W0, (((w.alloc (.cells #[.pointer (some ⟨B, 0, none⟩)] 159)).alloc (.cells (mrkV ph ga gs.length gc ba bs.length bc at') 40)).alloc (.cells #[.int .i64 0] 3)).alloc (.cells #[.slice ao zs.length cap] 26) = W0 := ⟨_, rfl⟩
  rw [hW0] at bP bM bE bB hk0 hsz ⊢
  have hM0 := hM.kept hk0
  have hb0 := hb.kept hk0
  clear hW0 hm0
  refine range_blocks (X := fun k => k = w.heap.size + 1 + 1) (nX := w.heap.size + 3) (zs := zs) (ao := ao) (cap := cap) (by omega) rfl (by simp) (by simp) (by decide) hL hM.ws hk0 (by intro k h; omega) (by intro k h; omega) (by intro k h; omega) (by omega) bB
    (fun pre W => (Cells W (w.heap.size + 1 + 1) 3 #[.int .i64 (cntL pre (gs ++ bs) : Nat)] ∧ (Cells W w.heap.size 159 #[.pointer (some ⟨B, 0, none⟩)] ∧ Cells W (w.heap.size + 1) 40 (mrkV ph ga gs.length gc ba bs.length bc at'))) ∧ Below w.heap.size w W)
    (fun _ _ _ => False)
    (OwnFrom.and (OwnFrom.and (Own.from (Cells.own _ _ (fun pre => #[.int .i64 (cntL pre (gs ++ bs) : Nat)])) _) (OwnFrom.and (Own.from (Cells.own _ _ _) _) (Own.from (Cells.own _ _ _) _))) (ownFrom_below (Nat.le_refl _) (by omega)))
    (fun _ _ _ _ _ hs _ _ => hs)
    ⟨⟨bE, bP, bM⟩, hk0⟩ ?body ?done ?stop
  case body =>
    rintro l pre x W Bx hBx bX ⟨⟨bE1, bP1, bM1⟩, hB1⟩ hlt
    have hx := x.2
    have hMW := hM.kept hB1
    have hcn := cntL_le pre (gs ++ bs)
    have hbc : pre.length < 2000 := by have := blocks_count zs; omega
    have kd7 : ∀ u, Kept W.drew u → Kept W u := fun u hu => Kept.trans (Below.refl _ W).drew hu
    have y0 : ∀ u, Kept W.drew u → u.cell? ⟨Bx, 0, none⟩ = some (.int .i64 (x.1.at' : Nat)) ∧ u.cell? ⟨Bx, 1, none⟩ = some (.int .i64 (x.1.size : Nat)) ∧ u.cell? ⟨Bx, 2, none⟩ = some (.int .i64 (x.1.kind : Nat)) := fun u hu => by
      have h := bX.kept (kd7 u hu)
      exact ⟨h.cell 0, h.cell 1, h.cell 2⟩
    have y1 : ∀ u, Kept W.drew u → u.cell? ⟨w.heap.size, 0, none⟩ = some (.pointer (some ⟨B, 0, none⟩)) := fun u hu => (bP1.kept (kd7 u hu)).cell 0
    have hat : x.1.at' < 2000 := by omega
    have p1 : (0 : Int) ≤ ((x.1.at' : Nat) : Int) := by omega
    have p2 : ((x.1.at' : Nat) : Int) < 2000 := by omega
    have y2 : ∀ u, Kept W.drew u → u.cell? ⟨B, 2 + x.1.at', none⟩ = some (.int .u8 (colAt gs bs x.1.at')) := fun u hu => (hMW.kept (kd7 u hu)).col hat
    have C1 : Hid (∀ u, Kept W.drew u → Calls Tryz.prog 160 #[bkV (x.1.at' : Nat) (x.1.size : Nat) (x.1.kind : Nat)] u fun e w' => e = .returned (.bool (((x.1.kind : Nat) : Int) == 0)) ∧ Kept u w') := fun u _ => free_kept _ _ _ u
    simp only [List.setIfInBounds_toArray, List.set_cons_succ, List.set_cons_zero]
    obtain ⟨q, hq⟩ : ∃ q : Nat, x.1.kind = q := ⟨_, rfl⟩
    obtain ⟨c, hc⟩ : ∃ c : Int, colAt gs bs x.1.at' = c := ⟨_, rfl⟩
    have hcb := colAt_bd gs bs x.1.at'
    rw [hc] at hcb
    have hmet := col_met (gs := gs) (bs := bs) (n := x.1.at')
    rw [hc] at hmet
    rw [hq] at C1 y0
    simp only [hc] at y2
    simp only [hq]
    by_cases hq0 : q = 0
    · have HN : Hid (cntL (pre ++ [x]) (gs ++ bs) = cntL pre (gs ++ bs)) := cntL_no (by rintro ⟨h, _⟩; exact h (hq.trans hq0))
      subst hq0
      clear hmet hq hc
      gi_wp2_with fail
      refine wpIn_region_seqL (by kernel_rfl) (by kernel_rfl) (by kernel_rfl) ?_
      repeat (first
        | (refine SeqL.skip (by rfl) ?_; simp only [Act.put, List.setIfInBounds_toArray, List.set_cons_zero, List.set_cons_succ])
        | (refine SeqL.pure ?_ (by rfl) ?_ ?_; rotate_left; (focus (intro u hu; have y1' := y1 u hu; have y2' := y2 u hu; obtain ⟨y00, y01, y02⟩ := y0 u hu; go_simp; first | done | exact rfl)); simp only [Act.put, List.setIfInBounds_toArray, List.set_cons_zero, List.set_cons_succ])
        | (refine SeqL.call _ _ _ (by rfl) ?_ C1.out ?_; (focus (intro u; go_simp; done)); simp only [Act.put, List.setIfInBounds_toArray, List.set_cons_zero, List.set_cons_succ]))
      refine SeqL.nil ?_
      intro w5 hu5
      have k5 := kd7 w5 hu5
      have e5 := bE1.kept k5
      have c5 := e5.cell 0
      have f5 := e5.frozen 0
      have p5 := bP1.kept k5
      have m5 := bM1.kept k5
      clear y0 y1 y2 C1
      gi_wp2
      refine ⟨k5.others.from _, KeepX.of k5, ⟨?_, p5, m5⟩, hB1.trans (k5.mono hB1.size)⟩
      rw [HN.out]
      exact e5
    · have hqb : (((q : Nat) : Int) == 0) = false := by simp; omega
      rw [hqb] at C1
      by_cases hc0 : c = 0
      · have HN : Hid (cntL (pre ++ [x]) (gs ++ bs) = cntL pre (gs ++ bs)) := cntL_no (by rintro ⟨_, h⟩; exact (hmet.2 h) hc0)
        subst hc0
        clear hmet hq hc hq0
        gi_wp2_with fail
        refine wpIn_region_seqL (by kernel_rfl) (by kernel_rfl) (by kernel_rfl) ?_
        repeat (first
          | (refine SeqL.skip (by rfl) ?_; simp only [Act.put, List.setIfInBounds_toArray, List.set_cons_zero, List.set_cons_succ])
          | (refine SeqL.pure ?_ (by rfl) ?_ ?_; rotate_left; (focus (intro u hu; have y1' := y1 u hu; have y2' := y2 u hu; obtain ⟨y00, y01, y02⟩ := y0 u hu; go_simp; first | done | exact rfl)); simp only [Act.put, List.setIfInBounds_toArray, List.set_cons_zero, List.set_cons_succ])
          | (refine SeqL.call _ _ _ (by rfl) ?_ C1.out ?_; (focus (intro u; go_simp; done)); simp only [Act.put, List.setIfInBounds_toArray, List.set_cons_zero, List.set_cons_succ]))
        refine SeqL.nil ?_
        intro w5 hu5
        have k5 := kd7 w5 hu5
        have e5 := bE1.kept k5
        have c5 := e5.cell 0
        have f5 := e5.frozen 0
        have p5 := bP1.kept k5
        have m5 := bM1.kept k5
        clear y0 y1 y2 C1
        gi_wp2
        refine ⟨k5.others.from _, KeepX.of k5, ⟨?_, p5, m5⟩, hB1.trans (k5.mono hB1.size)⟩
        rw [HN.out]
        exact e5
      · have hcb0 : (c == 0) = false := by simpa using hc0
        have HN : Hid (cntL (pre ++ [x]) (gs ++ bs) = cntL pre (gs ++ bs) + 1) := cntL_yes ⟨fun h => hq0 (hq.symm.trans h), hmet.1 hc0⟩
        clear hmet hq hc hq0
        gi_wp2_with fail
        refine wpIn_region_seqL (by kernel_rfl) (by kernel_rfl) (by kernel_rfl) ?_
        repeat (first
          | (refine SeqL.skip (by rfl) ?_; simp only [Act.put, List.setIfInBounds_toArray, List.set_cons_zero, List.set_cons_succ])
          | (refine SeqL.pure ?_ (by rfl) ?_ ?_; rotate_left; (focus (intro u hu; have y1' := y1 u hu; have y2' := y2 u hu; obtain ⟨y00, y01, y02⟩ := y0 u hu; go_simp; first | done | exact rfl)); simp only [Act.put, List.setIfInBounds_toArray, List.set_cons_zero, List.set_cons_succ])
          | (refine SeqL.call _ _ _ (by rfl) ?_ C1.out ?_; (focus (intro u; go_simp; done)); simp only [Act.put, List.setIfInBounds_toArray, List.set_cons_zero, List.set_cons_succ]))
        refine SeqL.nil ?_
        intro w5 hu5
        have k5 := kd7 w5 hu5
        have e5 := bE1.kept k5
        have c5 := e5.cell 0
        have f5 := e5.frozen 0
        have p5 := bP1.kept k5
        have m5 := bM1.kept k5
        clear y0 y1 y2 C1
        gi_wp2
        refine ⟨(k5.others.trans (KeepsOthers.setCell _ _ _)).from _, (KeepX.of k5).t (KeepX.setCell (X := fun k => k = w.heap.size + 1 + 1) (p := ⟨w.heap.size + 1 + 1, 0, none⟩) rfl _), ⟨?_, p5.other (by simp; omega) _, m5.other (by simp) _⟩, (hB1.trans (k5.mono hB1.size)).setCell (p := ⟨w.heap.size + 1 + 1, 0, none⟩) (by simp; omega) _⟩
        rw [HN.out]
        exact e5.set1 _
  case done =>
    rintro D W hD ⟨⟨bE1, bP1, bM1⟩, hB1⟩ hK
    have cE := bE1.cell 0
    have cM1 := bM1.cell 1
    have cM2 := bM1.cell 2
    have hbc : (blocks zs).length ≤ 2000 := by have := blocks_count zs; omega
    have hcn := cntL_le (blocks zs) (gs ++ bs)
    have hSo := isSorted_ok W ba bc bs (hb.kept hB1) hbl
    obtain ⟨n, hn⟩ : ∃ n, cntL (blocks zs) (gs ++ bs) = n := ⟨_, rfl⟩
    rw [hn] at cE hcn
    have HLs : Hid (listsR zs gs bs = (decide (n = gs.length + bs.length) && sortB bs)) := by rw [Hid, listsR, hn]
    by_cases he : n = gs.length + bs.length
    · have e1 : ((n : Int) == (gs.length : Int) + (bs.length : Int)) = true := by simp; omega
      rw [decide_eq_true he, Bool.true_and] at HLs
      clear he hn
      gi_wp2_with (refine ⟨trivial, ?_⟩; gi_at_call 161; refine (callsIn_wide.2 hSo).mono ?_; rintro e w5 ⟨rfl, hk5⟩)
      have hK5 := hk5.others.same D _ hK rfl
      refine ⟨by simp, .inl ⟨_, _, rfl, run_takeDeferred hK5, ?_⟩⟩
      refine ⟨_, results_tmp rfl _ _ _, by rw [HLs.out]; rfl, Below.trans (hB1.trans (hk5.mono hB1.size)) (belowK_b (w := w) (Nat.le_refl _) w5 D _ _ (by omega) hK5 rfl rfl)⟩
    · have e1 : ((n : Int) == (gs.length : Int) + (bs.length : Int)) = false := by simp; omega
      rw [decide_eq_false he, Bool.false_and] at HLs
      clear he hn
      gi_wp2
      refine ⟨trivial, ?_⟩
      gi_wp2
      refine ⟨by simp, .inl ⟨_, _, rfl, run_takeDeferred hK, ?_⟩⟩
      refine ⟨_, results_tmp rfl _ _ _, by rw [HLs.out]; rfl, hB1.trans (belowK_b (w := w) (Nat.le_refl _) W D _ _ (by omega) hK rfl rfl)⟩
  case stop =>
    rintro D c pre W _ _ h _
    exact h.elim
end Go.Proofs.YtgempjjnfpmndaaGreatDoor
namespace Go.Proofs.YtgempjjnfpmndaaGreatDoor
open Go.RowKit Go.Shelf
attribute [local go_sem] Oper.semAt_some

def bOkB (zs bs : List Int) (b : BkOf zs.length) : Bool := !decide (((b.1.at' : Nat) : Int) ∈ bs) || blkR zs b.1.at' b.1.size b.1.kind
/-- What blacksOk tells. -/
def bOkR (zs bs : List Int) (l : List (BkOf zs.length)) : Bool := l.all (bOkB zs bs)
theorem bOkR_snoc (zs bs : List Int) (l : List (BkOf zs.length)) (b : BkOf zs.length) : bOkR zs bs (l ++ [b]) = (bOkR zs bs l && bOkB zs bs b) := by simp [bOkR]
theorem bOkR_pre {zs bs : List Int} {l m : List (BkOf zs.length)} (h : l <+: m) (hf : bOkR zs bs l = false) : bOkR zs bs m = false := by
  obtain ⟨r, e⟩ := h
  rw [← e, bOkR, List.all_append, show l.all (bOkB zs bs) = false from hf, Bool.false_and]
theorem col_is2 {gs bs : List Int} {n : Nat} : (colAt gs bs n == 2) = decide ((n : Int) ∈ bs) := by
  unfold colAt
  by_cases h1 : (n : Int) ∈ bs <;> by_cases h2 : (n : Int) ∈ gs <;> simp [h1, h2]
set_option maxRecDepth 100000 in
set_option maxHeartbeats 8000000 in
theorem blacksOk_ok (w : World) (B : Nat) (ao lo : Option Addr) (cap lc : Nat) (zs gs bs : List Int) (gv : Value) (hM : MkgR w B ao lo cap lc zs gs bs gv) (hok : slabOk zs = true) :
    Calls Tryz.prog 129 #[.pointer (some ⟨B, 0, none⟩)] w fun e w' => e = .returned (.bool (bOkR zs bs (blocks zs))) ∧ Kept w w' := by
  have hzl := (slabOk_iff.1 hok).1
  have hL : zs.length * 8 ≤ 140737488351232 := by omega
  have hBw := hM.c.lt
  have hm0 := (hM.kept ((Kept.alloc (Below.refl _ w) (.cells #[.pointer (some ⟨B, 0, none⟩)] 159)).alloc (.cells #[.bool false] 4))).c0
  refine (callsIn_wide (n := 3)).1 ?_
  refine callsIn_of_wp_marks Tryz.func129 rfl trivial ?_ rfl
  simp only [Tryz.ntmps129, List.size_toArray, List.length_cons, List.length_nil, Nat.reduceAdd, Nat.reduceSub, Array.replicate_succ, Array.replicate_zero, List.push_toArray, List.append_toArray, List.nil_append, List.cons_append]
  gi_wp2_with (refine ⟨trivial, ?_⟩; gi_at_call 145; refine (callsIn_wide.2 (blocksOf_ok _ _ _ _)).mono ?_; rintro e w' ⟨rfl, rfl⟩)
  have hk0 : Kept w (((w.alloc (.cells #[.pointer (some ⟨B, 0, none⟩)] 159)).alloc (.cells #[.bool false] 4)).alloc (.cells #[.slice ao zs.length cap] 26)) := ((Kept.alloc (Below.refl _ _) _).alloc _).alloc _
  have bP := ((Cells.new w 159 #[.pointer (some ⟨B, 0, none⟩)]).alloc (.cells #[.bool false] 4)).alloc (.cells #[.slice ao zs.length cap] 26)
  have bE := (Cells.new (w.alloc (.cells #[.pointer (some ⟨B, 0, none⟩)] 159)) 4 #[.bool false]).alloc (.cells #[.slice ao zs.length cap] 26)
  have bB := Cells.new ((w.alloc (.cells #[.pointer (some ⟨B, 0, none⟩)] 159)).alloc (.cells #[.bool false] 4)) 26 #[.slice ao zs.length cap]
  have hsz : (((w.alloc (.cells #[.pointer (some ⟨B, 0, none⟩)] 159)).alloc (.cells #[.bool false] 4)).alloc (.cells #[.slice ao zs.length cap] 26)).heap.size = w.heap.size + 3 := by simp
  simp only [World.size_alloc] at bE bB
  obtain ⟨W0, hW0⟩ : ∃ W0, ((w.alloc (.cells #[.pointer (some ⟨B, 0, none⟩)] 159)).alloc (.cells #[.bool false] 4)).alloc (.cells #[.slice ao zs.length cap] 26) = W0 := ⟨_, rfl⟩
  rw [hW0] at bP bE bB hk0 hsz ⊢
  clear hW0 hm0
  refine range_blocks (X := fun k => k = w.heap.size + 1) (nX := w.heap.size + 2) (zs := zs) (ao := ao) (cap := cap) (by omega) rfl (by simp) (by simp) (by decide) hL hM.ws hk0 (by intro k h; omega) (by intro k h; omega) (by intro k h; omega) (by omega) bB
    (fun pre W => (bOkR zs bs pre = true ∧ (Cells W (w.heap.size + 1) 4 #[.bool false] ∧ Cells W w.heap.size 159 #[.pointer (some ⟨B, 0, none⟩)])) ∧ Below w.heap.size w W)
    (fun c pre W => c = .ret ∧ bOkR zs bs pre = false ∧ Cells W (w.heap.size + 1) 4 #[.bool false] ∧ Below w.heap.size w W)
    (OwnFrom.and (OwnFrom.and (fun _ _ _ _ h _ _ => h) (OwnFrom.and (Own.from (Cells.own _ _ _) _) (Own.from (Cells.own _ _ _) _))) (ownFrom_below (Nat.le_refl _) (by omega))) ?ox
    ⟨⟨rfl, bE, bP⟩, hk0⟩ ?body ?done ?stop
  case ox =>
    rintro c s Y Z row ⟨h1, h2, h3, hB⟩ hg hr
    exact ⟨h1, h2, Own.from (Cells.own _ _ (fun _ : Unit => _)) W0.heap.size () Y Z row h3 hg hr, ownFrom_below (Nat.le_refl _) (by omega) s Y Z row hB hg hr⟩
  case body =>
    rintro l pre x W Bx hBx bX ⟨⟨hp, bE1, bP1⟩, hB1⟩ hlt
    have hx := x.2
    have hMW := hM.kept hB1
    have kd7 : ∀ u, Kept W.drew u → Kept W u := fun u hu => Kept.trans (Below.refl _ W).drew hu
    have y0 : ∀ u, Kept W.drew u → u.cell? ⟨Bx, 0, none⟩ = some (.int .i64 (x.1.at' : Nat)) ∧ u.cell? ⟨Bx, 1, none⟩ = some (.int .i64 (x.1.size : Nat)) ∧ u.cell? ⟨Bx, 2, none⟩ = some (.int .i64 (x.1.kind : Nat)) := fun u hu => by
      have h := bX.kept (kd7 u hu)
      exact ⟨h.cell 0, h.cell 1, h.cell 2⟩
    have y1 : ∀ u, Kept W.drew u → u.cell? ⟨w.heap.size, 0, none⟩ = some (.pointer (some ⟨B, 0, none⟩)) := fun u hu => (bP1.kept (kd7 u hu)).cell 0
    have hat : x.1.at' < 2000 := by omega
    have p1 : (0 : Int) ≤ ((x.1.at' : Nat) : Int) := by omega
    have p2 : ((x.1.at' : Nat) : Int) < 2000 := by omega
    have y2 : ∀ u, Kept W.drew u → u.cell? ⟨B, 2 + x.1.at', none⟩ = some (.int .u8 (colAt gs bs x.1.at')) := fun u hu => (hMW.kept (kd7 u hu)).col hat
    have y3 : ∀ u, Kept W.drew u → u.cell? ⟨B, 0, none⟩ = some (.slice ao zs.length cap) := fun u hu => (hMW.kept (kd7 u hu)).c0
    have y4 : ∀ u, Kept W.drew u → u.cell? ⟨B, 1, none⟩ = some (.slice lo zs.length lc) := fun u hu => (hMW.kept (kd7 u hu)).c1
    have C1 : Hid (∀ u, Kept W.drew u → Calls Tryz.prog 146 #[.slice lo zs.length lc, .slice ao zs.length cap, bkV (x.1.at' : Nat) (x.1.size : Nat) (x.1.kind : Nat)] u fun e w' => e = .returned (.bool (blkR zs x.1.at' x.1.size x.1.kind)) ∧ Kept u w') := fun u hu => blockOk_ok u lo ao lc cap zs x.1.at' x.1.size x.1.kind (hMW.ly.kept (kd7 u hu)) (hMW.ws.kept (kd7 u hu)) (by omega) hx.2.1 hx.1 hx.2.2
    simp only [List.setIfInBounds_toArray, List.set_cons_succ, List.set_cons_zero]
    obtain ⟨c, hc⟩ : ∃ c : Int, colAt gs bs x.1.at' = c := ⟨_, rfl⟩
    have hc2 := col_is2 (gs := gs) (bs := bs) (n := x.1.at')
    rw [hc] at hc2
    simp only [hc] at y2
    cases hin : decide (((x.1.at' : Nat) : Int) ∈ bs) with
    | false =>
      rw [hin] at hc2
      have HP : Hid (bOkR zs bs (pre ++ [x]) = true) := by rw [Hid, bOkR_snoc, hp, bOkB, hin]; rfl
      clear hin hp hc
      gi_wp2_with fail
      refine wpIn_region_seqL (by kernel_rfl) (by kernel_rfl) (by kernel_rfl) ?_
      repeat (first
        | (refine SeqL.skip (by rfl) ?_; simp only [Act.put, List.setIfInBounds_toArray, List.set_cons_zero, List.set_cons_succ])
        | (refine SeqL.pure ?_ (by rfl) ?_ ?_; rotate_left; (focus (intro u hu; have y1' := y1 u hu; have y2' := y2 u hu; have y3' := y3 u hu; have y4' := y4 u hu; obtain ⟨y00, y01, y02⟩ := y0 u hu; go_simp; first | done | exact rfl)); simp only [Act.put, List.setIfInBounds_toArray, List.set_cons_zero, List.set_cons_succ])
        | (refine SeqL.call _ _ _ (by rfl) ?_ C1.out ?_; (focus (intro u; go_simp; done)); simp only [Act.put, List.setIfInBounds_toArray, List.set_cons_zero, List.set_cons_succ]))
      refine SeqL.nil ?_
      intro w5 hu5
      have k5 := kd7 w5 hu5
      have e5 := bE1.kept k5
      have c5 := e5.cell 0
      have f5 := e5.frozen 0
      have p5 := bP1.kept k5
      clear y0 y1 y2 C1 y3 y4
      gi_wp2
      exact ⟨k5.others.from _, KeepX.of k5, ⟨HP.out, e5, p5⟩, hB1.trans (k5.mono hB1.size)⟩
    | true =>
      rw [hin] at hc2
      cases hv : blkR zs x.1.at' x.1.size x.1.kind with
      | true =>
        rw [hv] at C1
        have HP : Hid (bOkR zs bs (pre ++ [x]) = true) := by rw [Hid, bOkR_snoc, hp, bOkB, hin, hv]; rfl
        clear hin hp hc hv
        gi_wp2_with fail
        refine wpIn_region_seqL (by kernel_rfl) (by kernel_rfl) (by kernel_rfl) ?_
        repeat (first
          | (refine SeqL.skip (by rfl) ?_; simp only [Act.put, List.setIfInBounds_toArray, List.set_cons_zero, List.set_cons_succ])
          | (refine SeqL.pure ?_ (by rfl) ?_ ?_; rotate_left; (focus (intro u hu; have y1' := y1 u hu; have y2' := y2 u hu; have y3' := y3 u hu; have y4' := y4 u hu; obtain ⟨y00, y01, y02⟩ := y0 u hu; go_simp; first | done | exact rfl)); simp only [Act.put, List.setIfInBounds_toArray, List.set_cons_zero, List.set_cons_succ])
          | (refine SeqL.call _ _ _ (by rfl) ?_ C1.out ?_; (focus (intro u; go_simp; done)); simp only [Act.put, List.setIfInBounds_toArray, List.set_cons_zero, List.set_cons_succ]))
        refine SeqL.nil ?_
        intro w5 hu5
        have k5 := kd7 w5 hu5
        have e5 := bE1.kept k5
        have c5 := e5.cell 0
        have f5 := e5.frozen 0
        have p5 := bP1.kept k5
        clear y0 y1 y2 C1 y3 y4
        gi_wp2
        exact ⟨k5.others.from _, KeepX.of k5, ⟨HP.out, e5, p5⟩, hB1.trans (k5.mono hB1.size)⟩
      | false =>
        rw [hv] at C1
        have HP : Hid (bOkR zs bs (pre ++ [x]) = false) := by rw [Hid, bOkR_snoc, hp, bOkB, hin, hv]; rfl
        clear hin hp hc hv
        gi_wp2_with fail
        refine wpIn_region_seqL (by kernel_rfl) (by kernel_rfl) (by kernel_rfl) ?_
        repeat (first
          | (refine SeqL.skip (by rfl) ?_; simp only [Act.put, List.setIfInBounds_toArray, List.set_cons_zero, List.set_cons_succ])
          | (refine SeqL.pure ?_ (by rfl) ?_ ?_; rotate_left; (focus (intro u hu; have y1' := y1 u hu; have y2' := y2 u hu; have y3' := y3 u hu; have y4' := y4 u hu; obtain ⟨y00, y01, y02⟩ := y0 u hu; go_simp; first | done | exact rfl)); simp only [Act.put, List.setIfInBounds_toArray, List.set_cons_zero, List.set_cons_succ])
          | (refine SeqL.call _ _ _ (by rfl) ?_ C1.out ?_; (focus (intro u; go_simp; done)); simp only [Act.put, List.setIfInBounds_toArray, List.set_cons_zero, List.set_cons_succ]))
        refine SeqL.nil ?_
        intro w5 hu5
        have k5 := kd7 w5 hu5
        have e5 := bE1.kept k5
        have c5 := e5.cell 0
        have f5 := e5.frozen 0
        have p5 := bP1.kept k5
        clear y0 y1 y2 C1 y3 y4
        gi_wp2
        exact ⟨(k5.others.trans (KeepsOthers.setCell _ _ _)).from _, rfl, HP.out, e5.set1 _, (hB1.trans (k5.mono hB1.size)).setCell (p := ⟨w.heap.size + 1, 0, none⟩) (by simp) _⟩
  case done =>
    rintro D W hD ⟨⟨hp, bE1, bP1⟩, hB1⟩ hK
    have c1 := bE1.cell 0
    have f1 := bE1.frozen 0
    have HV : Hid (bOkR zs bs (blocks zs) = true) := hp
    clear hp
    gi_wp2
    have hK' := (KeepsOthers.setCell W ⟨w.heap.size + 1, 0, none⟩ (.bool true)).same D _ hK rfl
    refine ⟨by simp, .inl ⟨_, _, rfl, run_takeDeferred hK', ?_⟩⟩
    have q1 := (bE1.set1 (.bool true)).put hK' rfl (.deferred none)
    refine ⟨.bool true, by simp [results, Tryz.results129, go_sem, q1.cell 0], by rw [HV.out], ?_⟩
    exact Below.trans (hB1.setCell (p := ⟨w.heap.size + 1, 0, none⟩) (by simp) _) (belowK_b (w := w) (Nat.le_refl _) _ D _ _ (by omega) hK' rfl rfl)
  case stop =>
    rintro D c pre W hD hpre ⟨rfl, hp, d1, hB⟩ hK
    have HV : Hid (bOkR zs bs (blocks zs) = false) := bOkR_pre hpre hp
    clear hp
    gi_wp2
    refine ⟨by simp, .inl ⟨_, _, rfl, run_takeDeferred hK, ?_⟩⟩
    have q1 := d1.put hK rfl (.deferred none)
    refine ⟨.bool false, by simp [results, Tryz.results129, go_sem, q1.cell 0], by rw [HV.out], ?_⟩
    exact hB.trans (belowK_b (w := w) (Nat.le_refl _) _ D _ _ (by omega) hK rfl rfl)
end Go.Proofs.YtgempjjnfpmndaaGreatDoor
namespace Go.Proofs.YtgempjjnfpmndaaGreatDoor
open Go.RowKit Go.Shelf
attribute [local go_sem] Oper.semAt_some

def pOkR (zs bs : List Int) (at' : Int) (l : List (BkOf zs.length)) : Bool := l.all (fun b => passB bs at' b.1.at' b.1.kind)
theorem pOkR_snoc (zs bs : List Int) (at' : Int) (l : List (BkOf zs.length)) (b : BkOf zs.length) : pOkR zs bs at' (l ++ [b]) = (pOkR zs bs at' l && passB bs at' b.1.at' b.1.kind) := by simp [pOkR]
theorem pOkR_pre {zs bs : List Int} {at' : Int} {l m : List (BkOf zs.length)} (h : l <+: m) (hf : pOkR zs bs at' l = false) : pOkR zs bs at' m = false := by
  obtain ⟨r, e⟩ := h
  rw [← e, pOkR, List.all_append, show l.all (fun b => passB bs at' b.1.at' b.1.kind) = false from hf, Bool.false_and]
/-- What sweptTo tells. -/
def toR (zs bs : List Int) (at' : Int) : Bool := (decide (at' = (zs.length : Int)) || isAt zs at') && passR zs bs at'
theorem isAt_kind1 (zs : List Int) (x : Int) : (kindAt zs x == -1) = !isAt zs x := by
  unfold isAt kindAt
  cases hb : atB zs x with
  | none => rfl
  | some b => simp
theorem col_not2 {gs bs : List Int} {n : Nat} : (colAt gs bs n != 2) = !decide ((n : Int) ∈ bs) := by
  unfold colAt
  by_cases h1 : (n : Int) ∈ bs <;> by_cases h2 : (n : Int) ∈ gs <;> simp [h1, h2]
set_option maxRecDepth 100000 in
set_option maxHeartbeats 8000000 in
theorem sweptTo_ok (w : World) (B : Nat) (ao lo : Option Addr) (cap lc : Nat) (zs gs bs : List Int) (gv : Value) (at' : Int) (hM : MkgR w B ao lo cap lc zs gs bs gv) (hok : slabOk zs = true) :
    Calls Tryz.prog 128 #[.pointer (some ⟨B, 0, none⟩), .int .i64 at'] w fun e w' => e = .returned (.bool (toR zs bs at')) ∧ Kept w w' := by
  have hzl := (slabOk_iff.1 hok).1
  have hL : zs.length * 8 ≤ 140737488351232 := by omega
  have hBw := hM.c.lt
  have kA : Kept w ((((w.alloc (.cells #[.pointer (some ⟨B, 0, none⟩)] 159)).alloc (.cells #[.int .i64 at'] 3)).alloc (.cells #[.bool false] 4))) := ((Kept.alloc (Below.refl _ _) _).alloc _).alloc _
  have aP := ((Cells.new w 159 #[.pointer (some ⟨B, 0, none⟩)]).alloc (.cells #[.int .i64 at'] 3)).alloc (.cells #[.bool false] 4)
  have aI := (Cells.new (w.alloc (.cells #[.pointer (some ⟨B, 0, none⟩)] 159)) 3 #[.int .i64 at']).alloc (.cells #[.bool false] 4)
  have aE := Cells.new ((w.alloc (.cells #[.pointer (some ⟨B, 0, none⟩)] 159)).alloc (.cells #[.int .i64 at'] 3)) 4 #[.bool false]
  simp only [World.size_alloc] at aI aE
  have hsA : ((((w.alloc (.cells #[.pointer (some ⟨B, 0, none⟩)] 159)).alloc (.cells #[.int .i64 at'] 3)).alloc (.cells #[.bool false] 4))).heap.size = w.heap.size + 3 := by simp
  have hMA := hM.kept kA
  have kd : ∀ u, Kept ((((w.alloc (.cells #[.pointer (some ⟨B, 0, none⟩)] 159)).alloc (.cells #[.int .i64 at'] 3)).alloc (.cells #[.bool false] 4))).drew u → Kept ((((w.alloc (.cells #[.pointer (some ⟨B, 0, none⟩)] 159)).alloc (.cells #[.int .i64 at'] 3)).alloc (.cells #[.bool false] 4))) u := fun u hu => Kept.trans (Below.refl _ _).drew hu
  have y0 : ∀ u, Kept ((((w.alloc (.cells #[.pointer (some ⟨B, 0, none⟩)] 159)).alloc (.cells #[.int .i64 at'] 3)).alloc (.cells #[.bool false] 4))).drew u → u.cell? ⟨w.heap.size, 0, none⟩ = some (.pointer (some ⟨B, 0, none⟩)) := fun u hu => (aP.kept (kd u hu)).cell 0
  have y1 : ∀ u, Kept ((((w.alloc (.cells #[.pointer (some ⟨B, 0, none⟩)] 159)).alloc (.cells #[.int .i64 at'] 3)).alloc (.cells #[.bool false] 4))).drew u → u.cell? ⟨w.heap.size + 1, 0, none⟩ = some (.int .i64 at') := fun u hu => (aI.kept (kd u hu)).cell 0
  have y2 : ∀ u, Kept ((((w.alloc (.cells #[.pointer (some ⟨B, 0, none⟩)] 159)).alloc (.cells #[.int .i64 at'] 3)).alloc (.cells #[.bool false] 4))).drew u → u.cell? ⟨B, 0, none⟩ = some (.slice ao zs.length cap) := fun u hu => (hMA.kept (kd u hu)).c0
  have y3 : ∀ u, Kept ((((w.alloc (.cells #[.pointer (some ⟨B, 0, none⟩)] 159)).alloc (.cells #[.int .i64 at'] 3)).alloc (.cells #[.bool false] 4))).drew u → u.cell? ⟨B, 1, none⟩ = some (.slice lo zs.length lc) := fun u hu => (hMA.kept (kd u hu)).c1
  have C1 : Hid (∀ u, Kept ((((w.alloc (.cells #[.pointer (some ⟨B, 0, none⟩)] 159)).alloc (.cells #[.int .i64 at'] 3)).alloc (.cells #[.bool false] 4))).drew u → Calls Tryz.prog 149 #[.slice lo zs.length lc, .int .i64 at'] u fun e w' => e = .returned (.int .i64 (kindAt zs at')) ∧ Kept u w') := fun u hu => (lkindAt_ok u lo lc zs at' (hMA.ly.kept (kd u hu))).mono (by rintro e w' ⟨rfl, rfl⟩; exact ⟨rfl, Below.refl _ _⟩)
  obtain ⟨q, hq⟩ : ∃ q, kindAt zs at' = q := ⟨_, rfl⟩
  have hq1 := isAt_kind1 zs at'
  rw [hq] at C1 hq1
  have hpass : passR zs bs at' = pOkR zs bs at' (blocks zs) := rfl
  by_cases hend : at' ≠ (zs.length : Int) ∧ isAt zs at' = false
  · have HT : Hid (toR zs bs at' = false) := by rw [Hid, toR, hend.2, decide_eq_false hend.1]; rfl
    have e1 : (at' != (zs.length : Int)) = true := by simpa using hend.1
    have e2 : (q == -1) = true := by rw [hq1, hend.2]; rfl
    have e3 : ¬ at' = (zs.length : Int) := hend.1
    clear hend hq hq1 hpass
    go_enter Tryz.func128, Tryz.ntmps128
    go_wp2_with fail
    refine wp_region_seqL (by kernel_rfl) (by kernel_rfl) ?_
    repeat (first
      | (refine SeqL.skip (by rfl) ?_; simp only [Act.put, List.setIfInBounds_toArray, List.set_cons_zero, List.set_cons_succ])
      | (refine SeqL.pure ?_ (by rfl) ?_ ?_; rotate_left; (focus (intro u hu; have y0' := y0 u hu; have y1' := y1 u hu; have y2' := y2 u hu; have y3' := y3 u hu; go_simp; first | done | exact rfl)); simp only [Act.put, List.setIfInBounds_toArray, List.set_cons_zero, List.set_cons_succ])
      | (refine SeqL.call _ _ _ (by rfl) ?_ C1.out ?_; (focus (intro u; go_simp; done)); simp only [Act.put, List.setIfInBounds_toArray, List.set_cons_zero, List.set_cons_succ]))
    refine SeqL.nil ?_
    intro w5 hu5
    have k5 := kd w5 hu5
    have E5 := aE.kept k5
    have c5 := E5.cell 0
    have f5 := E5.frozen 0
    have P5 := aP.kept k5
    have I5 := aI.kept k5
    have K5 := kA.trans k5
    have M5 := hM.kept K5
    have m50 := M5.c0
    have p50 := P5.cell 0
    clear y0 y1 y2 y3 C1 kd
    have q1 := E5.set1 (.bool false)
    have q10 := q1.cell 0
    go_wp2_with fail
    exact bodyPost_ret (v := .bool false) (by simp [results, Tryz.results128, go_sem, q10]) rfl ⟨by rw [HT.out], K5.set (p := ⟨w.heap.size + 1 + 1, 0, none⟩) (by simp; omega) _⟩
  · have HT : Hid (toR zs bs at' = pOkR zs bs at' (blocks zs)) := by
      have h1 : (decide (at' = (zs.length : Int)) || isAt zs at') = true := by
        by_cases h : at' = (zs.length : Int)
        · simp [h]
        · cases h2 : isAt zs at' with
          | true => simp
          | false => exact absurd ⟨h, h2⟩ hend
      rw [Hid, toR, h1, Bool.true_and]; rfl
    refine (callsIn_wide (n := 3)).1 ?_
    refine callsIn_of_wp_marks Tryz.func128 rfl trivial ?_ rfl
    simp only [Tryz.ntmps128, List.size_toArray, List.length_cons, List.length_nil, Nat.reduceAdd, Nat.reduceSub, Array.replicate_succ, Array.replicate_zero, List.push_toArray, List.append_toArray, List.nil_append, List.cons_append]
    refine wpIn_wide.2 ?_
    have hcase : at' = (zs.length : Int) ∨ (¬ at' = (zs.length : Int) ∧ (at' != (zs.length : Int)) = true ∧ (q == -1) = false) := by
      by_cases h : at' = (zs.length : Int)
      · exact .inl h
      · refine .inr ⟨h, by simpa using h, ?_⟩
        rw [hq1]
        cases h2 : isAt zs at' with
        | true => rfl
        | false => exact absurd ⟨h, h2⟩ hend
    clear hend hq hq1 hpass
    have fin : ∀ (w5 : World), Kept ((((w.alloc (.cells #[.pointer (some ⟨B, 0, none⟩)] 159)).alloc (.cells #[.int .i64 at'] 3)).alloc (.cells #[.bool false] 4))) w5 → ∃ W0 : World, w5.alloc (.cells #[.slice ao zs.length cap] 26) = W0 := fun w5 _ => ⟨_, rfl⟩
    clear fin
    rcases hcase with rfl | ⟨e3, e1, e2⟩
    · have e1 : (((zs.length : Int)) != (zs.length : Int)) = false := by simp
      go_wp2_with fail
      refine wp_region_seqL (by kernel_rfl) (by kernel_rfl) ?_
      repeat (first
        | (refine SeqL.skip (by rfl) ?_; simp only [Act.put, List.setIfInBounds_toArray, List.set_cons_zero, List.set_cons_succ])
        | (refine SeqL.pure ?_ (by rfl) ?_ ?_; rotate_left; (focus (intro u hu; have y0' := y0 u hu; have y1' := y1 u hu; have y2' := y2 u hu; have y3' := y3 u hu; go_simp; first | done | exact rfl)); simp only [Act.put, List.setIfInBounds_toArray, List.set_cons_zero, List.set_cons_succ])
        | (refine SeqL.call _ _ _ (by rfl) ?_ C1.out ?_; (focus (intro u; go_simp; done)); simp only [Act.put, List.setIfInBounds_toArray, List.set_cons_zero, List.set_cons_succ]))
      refine SeqL.nil ?_
      intro w5 hu5
      have k5 := kd w5 hu5
      have E5 := aE.kept k5
      have c5 := E5.cell 0
      have f5 := E5.frozen 0
      have P5 := aP.kept k5
      have I5 := aI.kept k5
      have K5 := kA.trans k5
      have M5 := hM.kept K5
      have m50 := M5.c0
      have p50 := P5.cell 0
      clear y0 y1 y2 y3 C1 kd
      go_wp2_with (go_at_call 145; refine (blocksOf_ok _ _ _ _).mono ?_; rintro e w6 ⟨rfl, rfl⟩)
      have kB : Kept w5 (w5.alloc (.cells #[.slice ao zs.length cap] 26)) := Kept.alloc (Below.refl _ _) _
      have bB := Cells.new w5 26 #[.slice ao zs.length cap]
      have hk0 := K5.trans kB
      have bE := E5.kept kB
      have bP := P5.kept kB
      have bI := I5.kept kB
      have hs5 := k5.size
      rw [hsA] at hs5
      have hsz : (w5.alloc (.cells #[.slice ao zs.length cap] 26)).heap.size = w5.heap.size + 1 := by simp
      obtain ⟨W0, hW0⟩ : ∃ W0, w5.alloc (.cells #[.slice ao zs.length cap] 26) = W0 := ⟨_, rfl⟩
      rw [hW0] at kB bB hk0 bE bP bI hsz ⊢
      clear hW0 c5 f5 m50 p50 E5 P5 I5 M5 hu5 k5 aP aI aE kA hMA
      refine (wpIn_wide (n := 3)).1 ?_
      refine range_blocks (X := fun k => k = w.heap.size + 1 + 1) (nX := w.heap.size + 3) (zs := zs) (ao := ao) (cap := cap) (by omega) rfl (by simp) (by simp) (by decide) hL hM.ws hk0 (by intro k h; omega) (by intro k h; omega) (by intro k h; omega) (by omega) bB
        (fun pre W => (pOkR zs bs (zs.length : Int) pre = true ∧ (Cells W (w.heap.size + 1 + 1) 4 #[.bool false] ∧ (Cells W w.heap.size 159 #[.pointer (some ⟨B, 0, none⟩)] ∧ Cells W (w.heap.size + 1) 3 #[.int .i64 (zs.length : Int)]))) ∧ Below w.heap.size w W)
        (fun c pre W => c = .ret ∧ pOkR zs bs (zs.length : Int) pre = false ∧ Cells W (w.heap.size + 1 + 1) 4 #[.bool false] ∧ Below w.heap.size w W)
        (OwnFrom.and (OwnFrom.and (fun _ _ _ _ h _ _ => h) (OwnFrom.and (Own.from (Cells.own _ _ _) _) (OwnFrom.and (Own.from (Cells.own _ _ _) _) (Own.from (Cells.own _ _ _) _)))) (ownFrom_below (Nat.le_refl _) (by omega))) ?ox
        ⟨⟨rfl, bE, bP, bI⟩, hk0⟩ ?body ?done ?stop
      case ox =>
        rintro c s Y Z row ⟨h1, h2, h3, hB⟩ hg hr
        exact ⟨h1, h2, Own.from (Cells.own _ _ (fun _ : Unit => _)) W0.heap.size () Y Z row h3 hg hr, ownFrom_below (Nat.le_refl _) (by omega) s Y Z row hB hg hr⟩
      case body =>
        rintro l pre x W Bx hBx bX ⟨⟨hp, bE1, bP1, bI1⟩, hB1⟩ hlt
        have hx := x.2
        have hMW := hM.kept hB1
        have kd7 : ∀ u, Kept W.drew u → Kept W u := fun u hu => Kept.trans (Below.refl _ W).drew hu
        have y0 : ∀ u, Kept W.drew u → u.cell? ⟨Bx, 0, none⟩ = some (.int .i64 (x.1.at' : Nat)) ∧ u.cell? ⟨Bx, 1, none⟩ = some (.int .i64 (x.1.size : Nat)) ∧ u.cell? ⟨Bx, 2, none⟩ = some (.int .i64 (x.1.kind : Nat)) := fun u hu => by
          have h := bX.kept (kd7 u hu)
          exact ⟨h.cell 0, h.cell 1, h.cell 2⟩
        have y1 : ∀ u, Kept W.drew u → u.cell? ⟨w.heap.size, 0, none⟩ = some (.pointer (some ⟨B, 0, none⟩)) := fun u hu => (bP1.kept (kd7 u hu)).cell 0
        have hat : x.1.at' < 2000 := by omega
        have p1 : (0 : Int) ≤ ((x.1.at' : Nat) : Int) := by omega
        have p2 : ((x.1.at' : Nat) : Int) < 2000 := by omega
        have y2 : ∀ u, Kept W.drew u → u.cell? ⟨B, 2 + x.1.at', none⟩ = some (.int .u8 (colAt gs bs x.1.at')) := fun u hu => (hMW.kept (kd7 u hu)).col hat
        have y3 : ∀ u, Kept W.drew u → u.cell? ⟨w.heap.size + 1, 0, none⟩ = some (.int .i64 (zs.length : Int)) := fun u hu => (bI1.kept (kd7 u hu)).cell 0
        have C1 : Hid (∀ u, Kept W.drew u → Calls Tryz.prog 160 #[bkV (x.1.at' : Nat) (x.1.size : Nat) (x.1.kind : Nat)] u fun e w' => e = .returned (.bool (((x.1.kind : Nat) : Int) == 0)) ∧ Kept u w') := fun u _ => free_kept _ _ _ u
        simp only [List.setIfInBounds_toArray, List.set_cons_succ, List.set_cons_zero]
        obtain ⟨c, hc⟩ : ∃ c : Int, colAt gs bs x.1.at' = c := ⟨_, rfl⟩
        have hc2 := col_not2 (gs := gs) (bs := bs) (n := x.1.at')
        rw [hc] at hc2
        simp only [hc] at y2
        obtain ⟨kq, hkq⟩ : ∃ kq : Nat, x.1.kind = kq := ⟨_, rfl⟩
        rw [hkq] at C1 y0
        simp only [hkq]
        have hpb : passB bs (zs.length : Int) x.1.at' x.1.kind = (decide ((zs.length : Int) ≤ ((x.1.at' : Nat) : Int)) || decide (kq = 0) || decide (((x.1.at' : Nat) : Int) ∈ bs)) := by unfold passB; rw [hkq]
        by_cases hlt2 : ((x.1.at' : Nat) : Int) < (zs.length : Int)
        · rw [decide_eq_false (by omega), Bool.false_or] at hpb
          by_cases hk0' : kq = 0
          · have HP : Hid (pOkR zs bs (zs.length : Int) (pre ++ [x]) = true) := by rw [Hid, pOkR_snoc, hp, hpb, hk0']; rfl
            subst hk0'
            clear hp hpb hc hkq
            gi_wp2_with fail
            refine wpIn_region_seqL (by kernel_rfl) (by kernel_rfl) (by kernel_rfl) ?_
            repeat (first
              | (refine SeqL.skip (by rfl) ?_; simp only [Act.put, List.setIfInBounds_toArray, List.set_cons_zero, List.set_cons_succ])
              | (refine SeqL.pure ?_ (by rfl) ?_ ?_; rotate_left; (focus (intro u hu; have y1' := y1 u hu; have y2' := y2 u hu; have y3' := y3 u hu; obtain ⟨y00, y01, y02⟩ := y0 u hu; go_simp; first | done | exact rfl)); simp only [Act.put, List.setIfInBounds_toArray, List.set_cons_zero, List.set_cons_succ])
              | (refine SeqL.call _ _ _ (by rfl) ?_ C1.out ?_; (focus (intro u; go_simp; done)); simp only [Act.put, List.setIfInBounds_toArray, List.set_cons_zero, List.set_cons_succ]))
            refine SeqL.nil ?_
            intro w5 hu5
            have k5 := kd7 w5 hu5
            have e5 := bE1.kept k5
            have c5 := e5.cell 0
            have f5 := e5.frozen 0
            have p5 := bP1.kept k5
            have i5 := bI1.kept k5
            clear y0 y1 y2 C1 y3
            gi_wp2
            exact ⟨k5.others.from _, KeepX.of k5, ⟨HP.out, e5, p5, i5⟩, hB1.trans (k5.mono hB1.size)⟩
          · have hqb : (((kq : Nat) : Int) == 0) = false := by simp; omega
            rw [hqb] at C1
            rw [decide_eq_false hk0', Bool.false_or] at hpb
            cases hin : decide (((x.1.at' : Nat) : Int) ∈ bs) with
            | true =>
              rw [hin] at hc2 hpb
              have HP : Hid (pOkR zs bs (zs.length : Int) (pre ++ [x]) = true) := by rw [Hid, pOkR_snoc, hp, hpb]; rfl
              clear hp hpb hc hkq hin hk0'
              gi_wp2_with fail
              refine wpIn_region_seqL (by kernel_rfl) (by kernel_rfl) (by kernel_rfl) ?_
              repeat (first
                | (refine SeqL.skip (by rfl) ?_; simp only [Act.put, List.setIfInBounds_toArray, List.set_cons_zero, List.set_cons_succ])
                | (refine SeqL.pure ?_ (by rfl) ?_ ?_; rotate_left; (focus (intro u hu; have y1' := y1 u hu; have y2' := y2 u hu; have y3' := y3 u hu; obtain ⟨y00, y01, y02⟩ := y0 u hu; go_simp; first | done | exact rfl)); simp only [Act.put, List.setIfInBounds_toArray, List.set_cons_zero, List.set_cons_succ])
                | (refine SeqL.call _ _ _ (by rfl) ?_ C1.out ?_; (focus (intro u; go_simp; done)); simp only [Act.put, List.setIfInBounds_toArray, List.set_cons_zero, List.set_cons_succ]))
              refine SeqL.nil ?_
              intro w5 hu5
              have k5 := kd7 w5 hu5
              have e5 := bE1.kept k5
              have c5 := e5.cell 0
              have f5 := e5.frozen 0
              have p5 := bP1.kept k5
              have i5 := bI1.kept k5
              clear y0 y1 y2 C1 y3
              gi_wp2
              exact ⟨k5.others.from _, KeepX.of k5, ⟨HP.out, e5, p5, i5⟩, hB1.trans (k5.mono hB1.size)⟩
            | false =>
              rw [hin] at hc2 hpb
              have HP : Hid (pOkR zs bs (zs.length : Int) (pre ++ [x]) = false) := by rw [Hid, pOkR_snoc, hp, hpb]; rfl
              clear hp hpb hc hkq hin hk0'
              gi_wp2_with fail
              refine wpIn_region_seqL (by kernel_rfl) (by kernel_rfl) (by kernel_rfl) ?_
              repeat (first
                | (refine SeqL.skip (by rfl) ?_; simp only [Act.put, List.setIfInBounds_toArray, List.set_cons_zero, List.set_cons_succ])
                | (refine SeqL.pure ?_ (by rfl) ?_ ?_; rotate_left; (focus (intro u hu; have y1' := y1 u hu; have y2' := y2 u hu; have y3' := y3 u hu; obtain ⟨y00, y01, y02⟩ := y0 u hu; go_simp; first | done | exact rfl)); simp only [Act.put, List.setIfInBounds_toArray, List.set_cons_zero, List.set_cons_succ])
                | (refine SeqL.call _ _ _ (by rfl) ?_ C1.out ?_; (focus (intro u; go_simp; done)); simp only [Act.put, List.setIfInBounds_toArray, List.set_cons_zero, List.set_cons_succ]))
              refine SeqL.nil ?_
              intro w5 hu5
              have k5 := kd7 w5 hu5
              have e5 := bE1.kept k5
              have c5 := e5.cell 0
              have f5 := e5.frozen 0
              have p5 := bP1.kept k5
              have i5 := bI1.kept k5
              clear y0 y1 y2 C1 y3
              gi_wp2
              exact ⟨(k5.others.trans (KeepsOthers.setCell _ _ _)).from _, rfl, HP.out, e5.set1 _, (hB1.trans (k5.mono hB1.size)).setCell (p := ⟨w.heap.size + 1 + 1, 0, none⟩) (by simp; omega) _⟩
        · exfalso; omega
      case done =>
        rintro D W hD ⟨⟨hp, bE1, bP1, bI1⟩, hB1⟩ hK
        have c1 := bE1.cell 0
        have f1 := bE1.frozen 0
        have HV : Hid (toR zs bs (zs.length : Int) = true) := by rw [Hid, HT.out]; exact hp
        clear hp
        go_wp2
        have hK' := (KeepsOthers.setCell W ⟨w.heap.size + 1 + 1, 0, none⟩ (.bool true)).same D _ hK rfl
        refine ⟨by simp, .inl ⟨_, _, rfl, run_takeDeferred hK', ?_⟩⟩
        have q1 := (bE1.set1 (.bool true)).put hK' rfl (.deferred none)
        refine ⟨.bool true, by simp [results, Tryz.results128, go_sem, q1.cell 0], by rw [HV.out], ?_⟩
        exact Below.trans (hB1.setCell (p := ⟨w.heap.size + 1 + 1, 0, none⟩) (by simp; omega) _) (belowK_b (w := w) (Nat.le_refl _) _ D _ _ (by omega) hK' rfl rfl)
      case stop =>
        rintro D c pre W hD hpre ⟨rfl, hp, d1, hB⟩ hK
        have HV : Hid (toR zs bs (zs.length : Int) = false) := by rw [Hid, HT.out]; exact pOkR_pre hpre hp
        clear hp
        gi_wp2
        refine ⟨by simp, .inl ⟨_, _, rfl, run_takeDeferred hK, ?_⟩⟩
        have q1 := d1.put hK rfl (.deferred none)
        refine ⟨.bool false, by simp [results, Tryz.results128, go_sem, q1.cell 0], by rw [HV.out], ?_⟩
        exact hB.trans (belowK_b (w := w) (Nat.le_refl _) _ D _ _ (by omega) hK rfl rfl)
    · go_wp2_with fail
      refine wp_region_seqL (by kernel_rfl) (by kernel_rfl) ?_
      repeat (first
        | (refine SeqL.skip (by rfl) ?_; simp only [Act.put, List.setIfInBounds_toArray, List.set_cons_zero, List.set_cons_succ])
        | (refine SeqL.pure ?_ (by rfl) ?_ ?_; rotate_left; (focus (intro u hu; have y0' := y0 u hu; have y1' := y1 u hu; have y2' := y2 u hu; have y3' := y3 u hu; go_simp; first | done | exact rfl)); simp only [Act.put, List.setIfInBounds_toArray, List.set_cons_zero, List.set_cons_succ])
        | (refine SeqL.call _ _ _ (by rfl) ?_ C1.out ?_; (focus (intro u; go_simp; done)); simp only [Act.put, List.setIfInBounds_toArray, List.set_cons_zero, List.set_cons_succ]))
      refine SeqL.nil ?_
      intro w5 hu5
      have k5 := kd w5 hu5
      have E5 := aE.kept k5
      have c5 := E5.cell 0
      have f5 := E5.frozen 0
      have P5 := aP.kept k5
      have I5 := aI.kept k5
      have K5 := kA.trans k5
      have M5 := hM.kept K5
      have m50 := M5.c0
      have p50 := P5.cell 0
      clear y0 y1 y2 y3 C1 kd
      go_wp2_with (go_at_call 145; refine (blocksOf_ok _ _ _ _).mono ?_; rintro e w6 ⟨rfl, rfl⟩)
      have kB : Kept w5 (w5.alloc (.cells #[.slice ao zs.length cap] 26)) := Kept.alloc (Below.refl _ _) _
      have bB := Cells.new w5 26 #[.slice ao zs.length cap]
      have hk0 := K5.trans kB
      have bE := E5.kept kB
      have bP := P5.kept kB
      have bI := I5.kept kB
      have hs5 := k5.size
      rw [hsA] at hs5
      have hsz : (w5.alloc (.cells #[.slice ao zs.length cap] 26)).heap.size = w5.heap.size + 1 := by simp
      obtain ⟨W0, hW0⟩ : ∃ W0, w5.alloc (.cells #[.slice ao zs.length cap] 26) = W0 := ⟨_, rfl⟩
      rw [hW0] at kB bB hk0 bE bP bI hsz ⊢
      clear hW0 c5 f5 m50 p50 E5 P5 I5 M5 hu5 k5 aP aI aE kA hMA
      refine (wpIn_wide (n := 3)).1 ?_
      refine range_blocks (X := fun k => k = w.heap.size + 1 + 1) (nX := w.heap.size + 3) (zs := zs) (ao := ao) (cap := cap) (by omega) rfl (by simp) (by simp) (by decide) hL hM.ws hk0 (by intro k h; omega) (by intro k h; omega) (by intro k h; omega) (by omega) bB
        (fun pre W => (pOkR zs bs at' pre = true ∧ (Cells W (w.heap.size + 1 + 1) 4 #[.bool false] ∧ (Cells W w.heap.size 159 #[.pointer (some ⟨B, 0, none⟩)] ∧ Cells W (w.heap.size + 1) 3 #[.int .i64 at']))) ∧ Below w.heap.size w W)
        (fun c pre W => c = .ret ∧ pOkR zs bs at' pre = false ∧ Cells W (w.heap.size + 1 + 1) 4 #[.bool false] ∧ Below w.heap.size w W)
        (OwnFrom.and (OwnFrom.and (fun _ _ _ _ h _ _ => h) (OwnFrom.and (Own.from (Cells.own _ _ _) _) (OwnFrom.and (Own.from (Cells.own _ _ _) _) (Own.from (Cells.own _ _ _) _)))) (ownFrom_below (Nat.le_refl _) (by omega))) ?ox
        ⟨⟨rfl, bE, bP, bI⟩, hk0⟩ ?body ?done ?stop
      case ox =>
        rintro c s Y Z row ⟨h1, h2, h3, hB⟩ hg hr
        exact ⟨h1, h2, Own.from (Cells.own _ _ (fun _ : Unit => _)) W0.heap.size () Y Z row h3 hg hr, ownFrom_below (Nat.le_refl _) (by omega) s Y Z row hB hg hr⟩
      case body =>
        rintro l pre x W Bx hBx bX ⟨⟨hp, bE1, bP1, bI1⟩, hB1⟩ hlt
        have hx := x.2
        have hMW := hM.kept hB1
        have kd7 : ∀ u, Kept W.drew u → Kept W u := fun u hu => Kept.trans (Below.refl _ W).drew hu
        have y0 : ∀ u, Kept W.drew u → u.cell? ⟨Bx, 0, none⟩ = some (.int .i64 (x.1.at' : Nat)) ∧ u.cell? ⟨Bx, 1, none⟩ = some (.int .i64 (x.1.size : Nat)) ∧ u.cell? ⟨Bx, 2, none⟩ = some (.int .i64 (x.1.kind : Nat)) := fun u hu => by
          have h := bX.kept (kd7 u hu)
          exact ⟨h.cell 0, h.cell 1, h.cell 2⟩
        have y1 : ∀ u, Kept W.drew u → u.cell? ⟨w.heap.size, 0, none⟩ = some (.pointer (some ⟨B, 0, none⟩)) := fun u hu => (bP1.kept (kd7 u hu)).cell 0
        have hat : x.1.at' < 2000 := by omega
        have p1 : (0 : Int) ≤ ((x.1.at' : Nat) : Int) := by omega
        have p2 : ((x.1.at' : Nat) : Int) < 2000 := by omega
        have y2 : ∀ u, Kept W.drew u → u.cell? ⟨B, 2 + x.1.at', none⟩ = some (.int .u8 (colAt gs bs x.1.at')) := fun u hu => (hMW.kept (kd7 u hu)).col hat
        have y3 : ∀ u, Kept W.drew u → u.cell? ⟨w.heap.size + 1, 0, none⟩ = some (.int .i64 at') := fun u hu => (bI1.kept (kd7 u hu)).cell 0
        have C1 : Hid (∀ u, Kept W.drew u → Calls Tryz.prog 160 #[bkV (x.1.at' : Nat) (x.1.size : Nat) (x.1.kind : Nat)] u fun e w' => e = .returned (.bool (((x.1.kind : Nat) : Int) == 0)) ∧ Kept u w') := fun u _ => free_kept _ _ _ u
        simp only [List.setIfInBounds_toArray, List.set_cons_succ, List.set_cons_zero]
        obtain ⟨c, hc⟩ : ∃ c : Int, colAt gs bs x.1.at' = c := ⟨_, rfl⟩
        have hc2 := col_not2 (gs := gs) (bs := bs) (n := x.1.at')
        rw [hc] at hc2
        simp only [hc] at y2
        obtain ⟨kq, hkq⟩ : ∃ kq : Nat, x.1.kind = kq := ⟨_, rfl⟩
        rw [hkq] at C1 y0
        simp only [hkq]
        have hpb : passB bs at' x.1.at' x.1.kind = (decide (at' ≤ ((x.1.at' : Nat) : Int)) || decide (kq = 0) || decide (((x.1.at' : Nat) : Int) ∈ bs)) := by unfold passB; rw [hkq]
        by_cases hlt2 : ((x.1.at' : Nat) : Int) < at'
        · rw [decide_eq_false (by omega), Bool.false_or] at hpb
          by_cases hk0' : kq = 0
          · have HP : Hid (pOkR zs bs at' (pre ++ [x]) = true) := by rw [Hid, pOkR_snoc, hp, hpb, hk0']; rfl
            subst hk0'
            clear hp hpb hc hkq
            gi_wp2_with fail
            refine wpIn_region_seqL (by kernel_rfl) (by kernel_rfl) (by kernel_rfl) ?_
            repeat (first
              | (refine SeqL.skip (by rfl) ?_; simp only [Act.put, List.setIfInBounds_toArray, List.set_cons_zero, List.set_cons_succ])
              | (refine SeqL.pure ?_ (by rfl) ?_ ?_; rotate_left; (focus (intro u hu; have y1' := y1 u hu; have y2' := y2 u hu; have y3' := y3 u hu; obtain ⟨y00, y01, y02⟩ := y0 u hu; go_simp; first | done | exact rfl)); simp only [Act.put, List.setIfInBounds_toArray, List.set_cons_zero, List.set_cons_succ])
              | (refine SeqL.call _ _ _ (by rfl) ?_ C1.out ?_; (focus (intro u; go_simp; done)); simp only [Act.put, List.setIfInBounds_toArray, List.set_cons_zero, List.set_cons_succ]))
            refine SeqL.nil ?_
            intro w5 hu5
            have k5 := kd7 w5 hu5
            have e5 := bE1.kept k5
            have c5 := e5.cell 0
            have f5 := e5.frozen 0
            have p5 := bP1.kept k5
            have i5 := bI1.kept k5
            clear y0 y1 y2 C1 y3
            gi_wp2
            exact ⟨k5.others.from _, KeepX.of k5, ⟨HP.out, e5, p5, i5⟩, hB1.trans (k5.mono hB1.size)⟩
          · have hqb : (((kq : Nat) : Int) == 0) = false := by simp; omega
            rw [hqb] at C1
            rw [decide_eq_false hk0', Bool.false_or] at hpb
            cases hin : decide (((x.1.at' : Nat) : Int) ∈ bs) with
            | true =>
              rw [hin] at hc2 hpb
              have HP : Hid (pOkR zs bs at' (pre ++ [x]) = true) := by rw [Hid, pOkR_snoc, hp, hpb]; rfl
              clear hp hpb hc hkq hin hk0'
              gi_wp2_with fail
              refine wpIn_region_seqL (by kernel_rfl) (by kernel_rfl) (by kernel_rfl) ?_
              repeat (first
                | (refine SeqL.skip (by rfl) ?_; simp only [Act.put, List.setIfInBounds_toArray, List.set_cons_zero, List.set_cons_succ])
                | (refine SeqL.pure ?_ (by rfl) ?_ ?_; rotate_left; (focus (intro u hu; have y1' := y1 u hu; have y2' := y2 u hu; have y3' := y3 u hu; obtain ⟨y00, y01, y02⟩ := y0 u hu; go_simp; first | done | exact rfl)); simp only [Act.put, List.setIfInBounds_toArray, List.set_cons_zero, List.set_cons_succ])
                | (refine SeqL.call _ _ _ (by rfl) ?_ C1.out ?_; (focus (intro u; go_simp; done)); simp only [Act.put, List.setIfInBounds_toArray, List.set_cons_zero, List.set_cons_succ]))
              refine SeqL.nil ?_
              intro w5 hu5
              have k5 := kd7 w5 hu5
              have e5 := bE1.kept k5
              have c5 := e5.cell 0
              have f5 := e5.frozen 0
              have p5 := bP1.kept k5
              have i5 := bI1.kept k5
              clear y0 y1 y2 C1 y3
              gi_wp2
              exact ⟨k5.others.from _, KeepX.of k5, ⟨HP.out, e5, p5, i5⟩, hB1.trans (k5.mono hB1.size)⟩
            | false =>
              rw [hin] at hc2 hpb
              have HP : Hid (pOkR zs bs at' (pre ++ [x]) = false) := by rw [Hid, pOkR_snoc, hp, hpb]; rfl
              clear hp hpb hc hkq hin hk0'
              gi_wp2_with fail
              refine wpIn_region_seqL (by kernel_rfl) (by kernel_rfl) (by kernel_rfl) ?_
              repeat (first
                | (refine SeqL.skip (by rfl) ?_; simp only [Act.put, List.setIfInBounds_toArray, List.set_cons_zero, List.set_cons_succ])
                | (refine SeqL.pure ?_ (by rfl) ?_ ?_; rotate_left; (focus (intro u hu; have y1' := y1 u hu; have y2' := y2 u hu; have y3' := y3 u hu; obtain ⟨y00, y01, y02⟩ := y0 u hu; go_simp; first | done | exact rfl)); simp only [Act.put, List.setIfInBounds_toArray, List.set_cons_zero, List.set_cons_succ])
                | (refine SeqL.call _ _ _ (by rfl) ?_ C1.out ?_; (focus (intro u; go_simp; done)); simp only [Act.put, List.setIfInBounds_toArray, List.set_cons_zero, List.set_cons_succ]))
              refine SeqL.nil ?_
              intro w5 hu5
              have k5 := kd7 w5 hu5
              have e5 := bE1.kept k5
              have c5 := e5.cell 0
              have f5 := e5.frozen 0
              have p5 := bP1.kept k5
              have i5 := bI1.kept k5
              clear y0 y1 y2 C1 y3
              gi_wp2
              exact ⟨(k5.others.trans (KeepsOthers.setCell _ _ _)).from _, rfl, HP.out, e5.set1 _, (hB1.trans (k5.mono hB1.size)).setCell (p := ⟨w.heap.size + 1 + 1, 0, none⟩) (by simp; omega) _⟩
        · rw [decide_eq_true (by omega), Bool.true_or, Bool.true_or] at hpb
          have HP : Hid (pOkR zs bs at' (pre ++ [x]) = true) := by rw [Hid, pOkR_snoc, hp, hpb]; rfl
          have hdl : decide (((x.1.at' : Nat) : Int) < at') = false := decide_eq_false hlt2
          clear hp hpb hc hkq
          gi_wp2_with fail
          refine wpIn_region_seqL (by kernel_rfl) (by kernel_rfl) (by kernel_rfl) ?_
          repeat (first
            | (refine SeqL.skip (by rfl) ?_; simp only [Act.put, List.setIfInBounds_toArray, List.set_cons_zero, List.set_cons_succ])
            | (refine SeqL.pure ?_ (by rfl) ?_ ?_; rotate_left; (focus (intro u hu; have y1' := y1 u hu; have y2' := y2 u hu; have y3' := y3 u hu; obtain ⟨y00, y01, y02⟩ := y0 u hu; go_simp; first | done | exact rfl)); simp only [Act.put, List.setIfInBounds_toArray, List.set_cons_zero, List.set_cons_succ])
            | (refine SeqL.call _ _ _ (by rfl) ?_ C1.out ?_; (focus (intro u; go_simp; done)); simp only [Act.put, List.setIfInBounds_toArray, List.set_cons_zero, List.set_cons_succ]))
          refine SeqL.nil ?_
          intro w5 hu5
          have k5 := kd7 w5 hu5
          have e5 := bE1.kept k5
          have c5 := e5.cell 0
          have f5 := e5.frozen 0
          have p5 := bP1.kept k5
          have i5 := bI1.kept k5
          clear y0 y1 y2 C1 y3
          gi_wp2
          exact ⟨k5.others.from _, KeepX.of k5, ⟨HP.out, e5, p5, i5⟩, hB1.trans (k5.mono hB1.size)⟩
      case done =>
        rintro D W hD ⟨⟨hp, bE1, bP1, bI1⟩, hB1⟩ hK
        have c1 := bE1.cell 0
        have f1 := bE1.frozen 0
        have HV : Hid (toR zs bs at' = true) := by rw [Hid, HT.out]; exact hp
        clear hp
        go_wp2
        have hK' := (KeepsOthers.setCell W ⟨w.heap.size + 1 + 1, 0, none⟩ (.bool true)).same D _ hK rfl
        refine ⟨by simp, .inl ⟨_, _, rfl, run_takeDeferred hK', ?_⟩⟩
        have q1 := (bE1.set1 (.bool true)).put hK' rfl (.deferred none)
        refine ⟨.bool true, by simp [results, Tryz.results128, go_sem, q1.cell 0], by rw [HV.out], ?_⟩
        exact Below.trans (hB1.setCell (p := ⟨w.heap.size + 1 + 1, 0, none⟩) (by simp; omega) _) (belowK_b (w := w) (Nat.le_refl _) _ D _ _ (by omega) hK' rfl rfl)
      case stop =>
        rintro D c pre W hD hpre ⟨rfl, hp, d1, hB⟩ hK
        have HV : Hid (toR zs bs at' = false) := by rw [Hid, HT.out]; exact pOkR_pre hpre hp
        clear hp
        gi_wp2
        refine ⟨by simp, .inl ⟨_, _, rfl, run_takeDeferred hK, ?_⟩⟩
        have q1 := d1.put hK rfl (.deferred none)
        refine ⟨.bool false, by simp [results, Tryz.results128, go_sem, q1.cell 0], by rw [HV.out], ?_⟩
        exact hB.trans (belowK_b (w := w) (Nat.le_refl _) _ D _ _ (by omega) hK rfl rfl)
end Go.Proofs.YtgempjjnfpmndaaGreatDoor
