/-
  Facts on lists: what the program asks of a marker is what its model asks (chapter 8).
  The contracts of impl.MarkerOk and impl.TriOk (chapter 8).
  The contract of impl.TriOk (chapter 8).
-/
import Derived.Test.YtgempjjnfpmndaaGreatDoorGrpCl
import Derived.Test.YtgempjjnfpmndaaGreatDoorGrpLs
import Derived.Test.YtgempjjnfpmndaaGreatDoorZMrkK
import Derived.Test.YtgempjjnfpmndaaGreatDoorZMrkJ
namespace Go.Proofs.YtgempjjnfpmndaaGreatDoor
open Go.RowKit

theorem sortB_le {l : List Int} (h : sortB l = true) : ∀ (d i : Nat), i + d < l.length → hz l i ≤ hz l (i + d)
  | 0, i, _ => by simp
  | d + 1, i, hd => by
    have h1 := sortB_le h d i (by omega)
    have h2 := allR_iff.1 h (i + d + 1) (by omega)
    simp at h2
    have : i + (d + 1) = i + d + 1 := by omega
    rw [this]
    omega
theorem sort_asc {l : List Int} (h : sortB l = true) (hn : l.Nodup) : l.Pairwise (· < ·) := by
  refine List.pairwise_iff_getElem.2 fun i j hi hj hij => ?_
  have h1 := sortB_le h (j - i) i (by omega)
  rw [show i + (j - i) = j by omega, hz_get hi, hz_get hj] at h1
  have h2 : l[i] ≠ l[j] := fun e => by
    have := List.pairwise_iff_getElem.1 hn i j hi hj hij
    exact this e
  omega
theorem met_bd {zs l : List Int} (hok : slabOk zs = true) (h : Met zs l) : ∀ a ∈ l, 0 ≤ a ∧ a < 2000 := fun a ha => by
  obtain ⟨n, e, hn, _⟩ := kind_nat (h.2 a ha)
  have := (slabOk_iff.1 hok).1
  omega
theorem blackR_sort {gs bs : List Int} (h : blackR gs bs = true) : sortB bs = true := by
  refine allR_iff.2 fun i hi => ?_
  have := allR_iff.1 h i hi
  unfold blackB at this
  simp only [Bool.and_eq_true] at this
  exact this.2
theorem blacks_is {zs gs bs : List Int} (hok : slabOk zs = true) (hM : Met zs bs) (hb : blackR gs bs = true) : blacksL (colL gs bs) 2000 = bs := blacks_col (sort_asc (blackR_sort hb) hM.1) (met_bd hok hM)
/-- Each of some places is that of a block that is right. -/
def rightR (zs bs : List Int) : Bool := bs.all (fun a => blkR zs a.toNat (sz zs a.toNat) (kd zs a.toNat))
theorem blk_at {zs : List Int} {a : Int} (ha : 1 ≤ kindAt zs a) : ∃ b ∈ blocks zs, ((b.1.at' : Nat) : Int) = a ∧ b.1.size = sz zs a.toNat ∧ b.1.kind = kd zs a.toNat := by
  unfold kindAt at ha
  cases hb : atB zs a with
  | none => rw [hb] at ha; simp at ha
  | some b =>
    obtain ⟨_, e, _, hs, hk, hm⟩ := atB_some hb
    have : a.toNat = b.1.at' := by omega
    exact ⟨b, hm, e, by rw [this]; exact hs, by rw [this]; exact hk⟩
theorem bOk_right {zs bs : List Int} (hM : Met zs bs) : bOkR zs bs (blocks zs) = rightR zs bs := by
  rw [Bool.eq_iff_iff]
  unfold bOkR rightR
  rw [List.all_eq_true, List.all_eq_true]
  constructor
  · intro h a ha
    obtain ⟨b, hb, e, es, ek⟩ := blk_at (hM.2 a ha)
    have := h b hb
    unfold bOkB at this
    rw [e, decide_eq_true ha] at this
    simp only [Bool.not_true, Bool.false_or] at this
    rw [← es, ← ek]
    have : a.toNat = b.1.at' := by omega
    rw [this]
    assumption
  · intro h b hb
    unfold bOkB
    by_cases hin : ((b.1.at' : Nat) : Int) ∈ bs
    · have := h _ hin
      rw [Int.toNat_natCast] at this
      obtain ⟨_, hs, hk⟩ := blks_mem zs 0 b hb
      rw [hs, hk, this]
      simp
    · simp [hin]
theorem vals_right {zs bs : List Int} (hok : slabOk zs = true) (hM : Met zs bs) (hr : rightR zs bs = true) {a : Int} (ha : a ∈ bs) : ∀ v ∈ slotV zs a, leadV zs v = decide (4 ≤ v % 8) := by
  intro v hv
  obtain ⟨b, hb, e, es, ek⟩ := blk_at (hM.2 a ha)
  have h1 := List.all_eq_true.1 hr a ha
  rw [← es, ← ek, show a.toNat = b.1.at' by omega] at h1
  unfold slotV at hv
  rw [← e] at hv
  obtain ⟨r, hr'⟩ := slots_val hok hb h1 v hv
  exact valR_lead hr'
theorem new_met {zs gs bs : List Int} {v : Int} (hl : leadV zs v = decide (4 ≤ v % 8)) : (!newV zs gs bs v) = metV gs bs v := by
  unfold newV metV
  rw [hl]
  unfold blkV
  by_cases h4 : 4 ≤ v % 8
  · have h4' : ¬ v % 8 < 4 := by omega
    rw [decide_eq_true h4] at hl
    obtain ⟨n, hn, _⟩ := kind_nat (lead_kind hl).2
    rw [if_neg h4', decide_eq_true h4, hn, decide_eq_false (show ¬ (n : Int) < 0 by omega)]
    simp [Bool.not_and]
  · have h4' : v % 8 < 4 := by omega
    rw [if_pos h4', decide_eq_false h4]
    simp
theorem closed_tri {zs gs bs : List Int} (hok : slabOk zs = true) (hM : Met zs bs) (hr : rightR zs bs = true) : closedR zs gs bs = bs.all (triB zs gs bs) := by
  unfold closedR
  rw [List.all_flatMap]
  rw [Bool.eq_iff_iff, List.all_eq_true, List.all_eq_true]
  constructor
  · intro h a ha
    have h1 := h a ha
    unfold triB
    rw [List.all_eq_true] at h1 ⊢
    intro v hv
    rw [← new_met (zs := zs) (vals_right hok hM hr ha v hv)]
    exact h1 v hv
  · intro h a ha
    have h1 := h a ha
    unfold triB at h1
    rw [List.all_eq_true] at h1 ⊢
    intro v hv
    rw [new_met (vals_right hok hM hr ha v hv)]
    exact h1 v hv
theorem swept_is {zs bs : List Int} {at' : Int} (hok : slabOk zs = true) (hM : Met zs bs) : (toR zs bs at' && (bOkR zs bs (blocks zs) && closedR zs [] bs)) = sweptR zs [] bs at' := by
  unfold sweptR toR
  rw [bOk_right hM]
  cases hr : rightR zs bs with
  | false =>
    have : bs.all (holdR zs bs) = false := by
      cases h : bs.all (holdR zs bs) with
      | false => rfl
      | true =>
        have : rightR zs bs = true := List.all_eq_true.2 fun a ha => by
          have := List.all_eq_true.1 h a ha
          unfold holdR at this
          rw [Bool.and_eq_true] at this
          exact this.1
        rw [hr] at this; cases this
    rw [this]; simp
  | true =>
    rw [closed_tri hok hM hr]
    have : bs.all (triB zs [] bs) = bs.all (holdR zs bs) := by
      rw [Bool.eq_iff_iff, List.all_eq_true, List.all_eq_true]
      have hm : ∀ v, metV [] bs v = amongV bs v := fun v => by simp [metV, amongV]
      constructor
      · intro h a ha
        unfold holdR
        rw [Bool.and_eq_true]
        refine ⟨List.all_eq_true.1 hr a ha, ?_⟩
        have := h a ha
        unfold triB at this
        rw [List.all_eq_true] at this ⊢
        intro v hv
        rw [← hm]
        exact this v hv
      · intro h a ha
        have := h a ha
        unfold holdR at this
        rw [Bool.and_eq_true] at this
        unfold triB
        rw [List.all_eq_true]
        intro v hv
        rw [hm]
        exact List.all_eq_true.1 this.2 v hv
    rw [this]
    simp
theorem heap_right {zs bs : List Int} (hh : heapR zs = true) (hM : Met zs bs) : rightR zs bs = true := by
  rw [← bOk_right hM]
  unfold bOkR
  rw [List.all_eq_true]
  intro b hb
  unfold bOkB
  rw [heapR_blk hh hb]
  simp
theorem lists_met {zs gs bs : List Int} (hok : slabOk zs = true) (h : listsR zs gs bs = true) : Met zs gs ∧ Met zs bs ∧ blackR gs bs = true := by
  rw [lists_is hok] at h
  simp only [Bool.and_eq_true, places_iff] at h
  exact ⟨h.1.1, h.1.2, h.2⟩
/-- What TriOk tells is what MarkerOk and closed tell. -/
theorem tri_is {zs gs bs : List Int} {ph at' : Int} (h : markR zs ph gs bs at' = true) : triR zs ph gs bs at' = closedR zs gs bs := by
  obtain ⟨hok, hG, hB, hp0, hp2⟩ := markR_met h
  unfold triR
  rw [h, Bool.true_and]
  have hx := h
  unfold markR at hx
  simp only [Bool.and_eq_true] at hx
  obtain ⟨_, hx⟩ := hx
  by_cases p0 : ph = 0
  · subst p0
    simp only [if_true, Bool.and_eq_true, decide_eq_true_eq] at hx
    rw [hx.1.1.2]
    rfl
  · by_cases p1 : ph = 1
    · subst p1
      simp only [if_true, Bool.and_eq_true, decide_eq_true_eq, show ¬ (1 : Int) = 0 by omega, if_false] at hx
      rw [closed_tri hok hB (heap_right hx.2 hB)]
      simp
    · rw [if_neg p0, if_neg p1] at hx
      have hgs : gs = [] := by
        unfold sweptR at hx
        simp only [Bool.and_eq_true, decide_eq_true_eq] at hx
        exact hx.1.1.1
      subst hgs
      rw [← swept_is hok hB] at hx
      simp only [Bool.and_eq_true] at hx
      rw [hx.2.2, decide_eq_false p1]
      rfl
end Go.Proofs.YtgempjjnfpmndaaGreatDoor
namespace Go.Proofs.YtgempjjnfpmndaaGreatDoor
open Go.RowKit

theorem MkgV.read {w w2 : World} {v : Value} {ao : Option Addr} {cap : Nat} {zs gs bs : List Int} (h : MkgV w w2 v ao cap zs gs bs) (hok : slabOk zs = true) (hI : Ints w2 ao zs) : ∃ (lo go : Option Addr) (lc gc : Nat), v = .agg (mkC (.slice ao zs.length cap) (.slice lo zs.length lc) (colL gs bs) (.slice go gs.length gc)) ∧ MkgR (w2.alloc (.cells (mkC (.slice ao zs.length cap) (.slice lo zs.length lc) (colL gs bs) (.slice go gs.length gc)) 123)) w2.heap.size ao lo cap lc zs gs bs (.slice go gs.length gc) := by
  obtain ⟨lo, go, ln, lc, gc, base, rfl, _, hyes, _, _, _⟩ := h.is
  obtain ⟨rfl, hly, _⟩ := hyes hok
  have k : Kept w2 (w2.alloc (.cells (mkC (.slice ao zs.length cap) (.slice lo zs.length lc) (colL gs bs) (.slice go gs.length gc)) 123)) := Kept.alloc (Below.refl _ _) _
  exact ⟨lo, go, lc, gc, rfl, Cells.new w2 _ _, hly.kept k, hI.kept k⟩
theorem MkgV.any {w w2 : World} {v : Value} {ao : Option Addr} {cap : Nat} {zs gs bs : List Int} (h : MkgV w w2 v ao cap zs gs bs) : ∃ (lo go : Option Addr) (ln lc gc : Nat), v = .agg (mkC (.slice ao zs.length cap) (.slice lo ln lc) (colL gs bs) (.slice go gs.length gc)) := by
  obtain ⟨lo, go, ln, lc, gc, base, rfl, _⟩ := h.is
  exact ⟨lo, go, ln, lc, gc, rfl⟩
set_option maxHeartbeats 16000000 in
set_option maxRecDepth 100000 in
theorem impl_MarkerOk_ok (w : World) (ao ga ba : Option Addr) (cap gc bc : Nat) (zs gs bs : List Int) (ph at' : Int) (hI : Ints w ao zs) (hl : zs.length ≤ 1048576) (hm : MkI w ga ba gc bc gs bs) (hgn : ga = none → gc = 0) :
    Calls Tryz.prog 82 #[.agg #[.slice ao zs.length cap], .agg (mrkV ph ga gs.length gc ba bs.length bc at')] w fun e w' => e = .returned (.bool (markR zs ph gs bs at')) ∧ Kept w w' := by
  have hL : zs.length * 8 ≤ 140737488351232 := by omega
  have hgl := hm.gl
  have hbl := hm.bl
  have b0 := (Cells.new w 39 #[.slice ao zs.length cap]).alloc (.cells (mrkV ph ga gs.length gc ba bs.length bc at') 40)
  have b1 := Cells.new (w.alloc (.cells #[.slice ao zs.length cap] 39)) 40 (mrkV ph ga gs.length gc ba bs.length bc at')
  have k0 : Kept w ((w.alloc (.cells #[.slice ao zs.length cap] 39)).alloc (.cells (mrkV ph ga gs.length gc ba bs.length bc at') 40)) := (Kept.alloc (Below.refl _ _) _).alloc _
  simp only [World.size_alloc] at b1
  have HI : Hid (∀ u, Kept w u → Ints u ao zs) := fun u hu => hI.kept hu
  have HB : Hid (∀ u, Kept w u → Ints u ba bs) := fun u hu => hm.b.kept hu
  have hMk := markingOf_ok _ ao ga ba cap gc bc zs gs bs ph at' (hI.kept k0) hl (hm.g.kept k0) (hm.b.kept k0) hgl hbl hgn
  have hSO := fun (u : World) (hu : Kept w u) => impl_SlabOk_ok u ao cap zs (HI.out u hu) hL
  have hHO := fun (u : World) (hu : Kept w u) => impl_HeapOk_ok u ao cap zs (HI.out u hu) hl
  have c0 := b0.cell 0
  have m0 := b1.cell 0
  have m1 := b1.cell 1
  have m2 := b1.cell 2
  have m3 := b1.cell 3
  clear hI hm hgn
  go_enter Tryz.func82, Tryz.ntmps82
  go_wp2_with fail
  refine hMk.mono ?_
  rintro e w2 ⟨v2, rfl, hv2, hk2⟩
  obtain ⟨lo, go, ln, lc, gc2, rfl⟩ := hv2.any
  have hcz := Cells.new w2 123 Tryz.zeroCells123
  go_upto_region 2 with (refine wpList_store_row (by rfl) 123 _ _ (by rfl) w2.heap.size _ (by rfl) (by rfl) _ _ hcz (by rw [mkC_size, colL_len]; exact infoMks) (by rw [mkC_size, colL_len]; exact zeroMk) mkC_one ?_)
  rw [World.setRow_alloc_new]
  have kS : Kept w2 (w2.alloc (.cells (mkC (.slice ao zs.length cap) (.slice lo ln lc) (colL gs bs) (.slice go gs.length gc2)) 123)) := Kept.alloc (Below.refl _ _) _
  have HR : Hid (slabOk zs = true → ln = zs.length ∧ MkgR (w2.alloc (.cells (mkC (.slice ao zs.length cap) (.slice lo ln lc) (colL gs bs) (.slice go gs.length gc2)) 123)) w2.heap.size ao lo cap lc zs gs bs (.slice go gs.length gc2)) := fun hok => by
    obtain ⟨lo', go', ln', lc', gc', base, e, _, hyes, _, _, _⟩ := hv2.is
    obtain ⟨rfl, hly, _⟩ := hyes hok
    have e0 := congrArg (fun v : Value => v.cells[1]?) e
    have e1 : (mkC (.slice ao zs.length cap) (.slice lo ln lc) (colL gs bs) (.slice go gs.length gc2))[1]? = (mkC (.slice ao zs.length cap) (.slice lo' zs.length lc') (colL gs bs) (.slice go' gs.length gc'))[1]? := e0
    rw [mkC_1, mkC_1] at e1
    simp only [Option.some.injEq, Value.slice.injEq] at e1
    obtain ⟨rfl, rfl, rfl⟩ := e1
    exact ⟨rfl, Cells.new w2 _ _, hly.kept kS, HI.out _ ((k0.trans hk2).trans kS)⟩
  have y0 := (b0.kept hk2).kept kS
  have y1 := (b1.kept hk2).kept kS
  have K2 := (k0.trans hk2).trans kS
  obtain ⟨WS, hWS⟩ : ∃ WS, w2.alloc (.cells (mkC (.slice ao zs.length cap) (.slice lo ln lc) (colL gs bs) (.slice go gs.length gc2)) 123) = WS := ⟨_, rfl⟩
  rw [hWS] at HR y0 y1 K2
  simp only [hWS]
  have HY0 : Hid (∀ u, Kept WS u → Cells u w.heap.size 39 #[.slice ao zs.length cap]) := fun u hu => y0.kept hu
  have HY1 : Hid (∀ u, Kept WS u → Cells u (w.heap.size + 1) 40 (mrkV ph ga gs.length gc ba bs.length bc at')) := fun u hu => y1.kept hu
  have HK : Hid (∀ u, Kept WS u → Kept w u) := fun u hu => K2.trans hu
  have s0 := y0.cell 0
  have n0 := y1.cell 0
  have n1 := y1.cell 1
  have n2 := y1.cell 2
  have n3 := y1.cell 3
  have hS1 := hSO WS K2
  clear hWS kS hcz hv2 hk2 hMk b0 b1 k0 c0 m0 m1 m2 m3 y0 y1 K2
  cases hok : slabOk zs with
  | false =>
    have HE : Hid (markR zs ph gs bs at' = false) := by simp [Hid, markR, hok]
    rw [hok] at hS1
    clear hok
    go_wp2_with fail
    refine hS1.mono ?_
    rintro e w3 ⟨rfl, k3⟩
    go_wp2_with fail
    go_ret
    exact ⟨by rw [HE.out]; rfl, HK.out _ k3⟩
  | true =>
    obtain ⟨rfl, hR⟩ := HR.out hok
    rw [hok] at hS1
    have HLs : Hid (∀ u, Kept WS u → Calls Tryz.prog 126 #[.pointer (some ⟨w2.heap.size, 0, none⟩), .agg (mrkV ph ga gs.length gc ba bs.length bc at')] u fun e w' => e = .returned (.bool (listsR zs gs bs)) ∧ Kept u w') := fun u hu => listsOk_ok u w2.heap.size ao lo ga ba cap lc gc bc zs gs bs ph at' _ (hR.kept hu) hok hgl (HB.out _ (HK.out u hu)) hbl
    have HOk : Hid _ := hok
    have HRd : Hid (∀ u, Kept WS u → MkgR u w2.heap.size ao lo cap lc zs gs bs (.slice go gs.length gc2)) := fun u hu => hR.kept hu
    have HLi : Hid (listsR zs gs bs = (placesR zs gs && placesR zs bs && blackR gs bs)) := lists_is hok
    clear hok hR HR
    go_wp2_with fail
    refine hS1.mono ?_
    rintro e w3 ⟨rfl, k3⟩
    clear s0 n0 n1 n2 n3
    have s0 := (HY0.out w3 k3).cell 0
    have n0 := (HY1.out w3 k3).cell 0
    have n1 := (HY1.out w3 k3).cell 1
    have n2 := (HY1.out w3 k3).cell 2
    have n3 := (HY1.out w3 k3).cell 3
    have hL3 := HLs.out w3 k3
    cases hls : listsR zs gs bs with
    | false =>
      have HE : Hid (markR zs ph gs bs at' = false) := by
        rw [Hid, markR, HOk.out]
        have := HLi.out
        rw [hls] at this
        cases h1 : placesR zs gs <;> cases h2 : placesR zs bs <;> cases h3 : blackR gs bs <;> simp [h1, h2, h3] at this ⊢
      rw [hls] at hL3
      clear hls
      go_wp2_with fail
      refine hL3.mono ?_
      rintro e w4 ⟨rfl, k4⟩
      go_wp2_with fail
      go_ret
      exact ⟨by rw [HE.out]; rfl, HK.out _ (k3.trans k4)⟩
    | true =>
      rw [hls] at hL3
      obtain ⟨hMg, hMb, hbR⟩ := lists_met HOk.out hls
      have HE : Hid (markR zs ph gs bs at' = (decide (0 ≤ ph ∧ ph ≤ 2) && (if ph = 0 then decide (gs = [] ∧ bs = []) && decide (at' = 0) && heapR zs else if ph = 1 then decide (at' = 0) && heapR zs else sweptR zs gs bs at'))) := by
        have := HLi.out
        rw [hls] at this
        have h' : placesR zs gs = true ∧ placesR zs bs = true ∧ blackR gs bs = true := by
          have h := this.symm
          simp only [Bool.and_eq_true] at h
          exact ⟨h.1.1, h.1.2, h.2⟩
        rw [Hid, markR, HOk.out, h'.1, h'.2.1, h'.2.2]
        simp
      have hbi := blacks_is (gs := gs) HOk.out hMb hbR
      have HMb : Hid _ := hMb
      have HBi : Hid _ := hbi
      clear hls hMg hMb hbR hbi HLi
      go_wp2_with fail
      refine hL3.mono ?_
      rintro e w4 ⟨rfl, k34⟩
      have k4 := k3.trans k34
      clear s0 n0 n1 n2 n3
      have s0 := (HY0.out w4 k4).cell 0
      have n0 := (HY1.out w4 k4).cell 0
      have n1 := (HY1.out w4 k4).cell 1
      have n2 := (HY1.out w4 k4).cell 2
      have n3 := (HY1.out w4 k4).cell 3
      have hH4 := hHO w4 (HK.out _ k4)
      have hT4 := sweptTo_ok w4 w2.heap.size ao lo cap lc zs gs bs _ at' (HRd.out _ k4) HOk.out
      by_cases p0 : ph = 0
      · subst p0
        rw [if_pos rfl] at HE
        obtain ⟨rh, hrh⟩ : ∃ rh, heapR zs = rh := ⟨_, rfl⟩
        rw [hrh] at HE hH4
        clear hrh
        cases rh with
        | false =>
          go_wp2_with fail
          refine hH4.mono ?_
          rintro e w5 ⟨rfl, k5⟩
          go_wp2_with fail
          go_ret
          exact ⟨by rw [HE.out]; simp, HK.out _ (k4.trans k5)⟩
        | true =>
          go_wp2_with fail
          refine hH4.mono ?_
          rintro e w5 ⟨rfl, k5⟩
          clear s0 n0 n1 n2 n3
          have n1 := (HY1.out w5 (k4.trans k5)).cell 1
          have n2 := (HY1.out w5 (k4.trans k5)).cell 2
          have n3 := (HY1.out w5 (k4.trans k5)).cell 3
          have K5 := HK.out _ (k4.trans k5)
          have ea : (at' == 0) = decide (at' = 0) := by by_cases h : at' = 0 <;> simp [h]
          have eg : ((gs.length : Int) == 0) = decide (gs = []) := by cases gs <;> simp; omega
          have eb : ((bs.length : Int) == 0) = decide (bs = []) := by cases bs <;> simp; omega
          by_cases ha : at' = 0
          · by_cases hg0 : gs = []
            · rw [decide_eq_true ha] at ea
              rw [decide_eq_true hg0] at eg
              obtain ⟨rb, hrb⟩ : ∃ rb, decide (bs = []) = rb := ⟨_, rfl⟩
              have HF : Hid (markR zs 0 gs bs at' = rb) := by rw [Hid, HE.out, ← hrb, ha]; simp [hg0]
              rw [hrb] at eb
              clear hrb ha hg0 HE
              go_wp2_with fail
              all_goals (go_ret; exact ⟨by rw [HF.out]; rfl, K5⟩)
            · rw [decide_eq_true ha] at ea
              rw [decide_eq_false hg0] at eg
              have HF : Hid (markR zs 0 gs bs at' = false) := by rw [Hid, HE.out]; simp [hg0]
              clear ha hg0 HE
              go_wp2_with fail
              all_goals (go_ret; exact ⟨by rw [HF.out]; rfl, K5⟩)
          · rw [decide_eq_false ha] at ea
            have HF : Hid (markR zs 0 gs bs at' = false) := by rw [Hid, HE.out]; simp [ha]
            clear ha HE
            go_wp2_with fail
            all_goals (go_ret; exact ⟨by rw [HF.out]; rfl, K5⟩)
      · have e0 : (ph == 0) = false := by simpa using p0
        rw [if_neg p0] at HE
        by_cases p1 : ph = 1
        · subst p1
          rw [if_pos rfl] at HE
          obtain ⟨rh, hrh⟩ : ∃ rh, heapR zs = rh := ⟨_, rfl⟩
          rw [hrh] at HE hH4
          clear hrh
          have ea : (at' == 0) = decide (at' = 0) := by by_cases h : at' = 0 <;> simp [h]
          obtain ⟨ra, hra⟩ : ∃ ra, decide (at' = 0) = ra := ⟨_, rfl⟩
          rw [hra] at ea HE
          clear hra
          cases rh with
          | false =>
            go_wp2_with fail
            refine hH4.mono ?_
            rintro e w5 ⟨rfl, k5⟩
            go_wp2_with fail
            go_ret
            exact ⟨by rw [HE.out]; simp, HK.out _ (k4.trans k5)⟩
          | true =>
            go_wp2_with fail
            refine hH4.mono ?_
            rintro e w5 ⟨rfl, k5⟩
            clear s0 n0 n1 n2 n3
            have n3 := (HY1.out w5 (k4.trans k5)).cell 3
            have K5 := HK.out _ (k4.trans k5)
            go_wp2_with fail
            all_goals (go_ret; exact ⟨by rw [HE.out]; simp, K5⟩)
        · have e1 : (ph == 1) = false := by simpa using p1
          rw [if_neg p1] at HE
          by_cases p2 : ph = 2
          · subst p2
            have eg : ((gs.length : Int) == 0) = decide (gs = []) := by cases gs <;> simp; omega
            by_cases hg0 : gs = []
            · rw [decide_eq_true hg0] at eg
              have HF : Hid (markR zs 2 gs bs at' = (toR zs bs at' && (bOkR zs bs (blocks zs) && closedR zs gs bs))) := by rw [Hid, HE.out, hg0, swept_is HOk.out HMb.out]; simp
              clear hg0 HE
              obtain ⟨r1, hr1⟩ : ∃ r1, toR zs bs at' = r1 := ⟨_, rfl⟩
              rw [hr1] at HF hT4
              clear hr1
              cases r1 with
              | false =>
                go_wp2_with fail
                refine hT4.mono ?_
                rintro e w5 ⟨rfl, k5⟩
                go_wp2_with fail
                go_ret
                exact ⟨by rw [HF.out]; rfl, HK.out _ (k4.trans k5)⟩
              | true =>
                go_wp2_with fail
                refine hT4.mono ?_
                rintro e w5 ⟨rfl, k45⟩
                have k5 := k4.trans k45
                have hB5 := blacksOk_ok w5 w2.heap.size ao lo cap lc zs gs bs _ (HRd.out _ k5) HOk.out
                obtain ⟨r2, hr2⟩ : ∃ r2, bOkR zs bs (blocks zs) = r2 := ⟨_, rfl⟩
                rw [hr2] at HF hB5
                clear hr2
                cases r2 with
                | false =>
                  go_wp2_with fail
                  refine hB5.mono ?_
                  rintro e w6 ⟨rfl, k6⟩
                  go_wp2_with fail
                  go_ret
                  exact ⟨by rw [HF.out]; rfl, HK.out _ (k5.trans k6)⟩
                | true =>
                  go_wp2_with fail
                  refine hB5.mono ?_
                  rintro e w6 ⟨rfl, k56⟩
                  have k6 := k5.trans k56
                  have hC6 := closed_ok w6 w2.heap.size ao lo cap lc zs gs bs _ (HRd.out _ k6) HOk.out HBi.out (fun a ha => HMb.out.2 a ha)
                  obtain ⟨r3, hr3⟩ : ∃ r3, closedR zs gs bs = r3 := ⟨_, rfl⟩
                  rw [hr3] at HF hC6
                  clear hr3
                  go_wp2_with fail
                  refine hC6.mono ?_
                  rintro e w7 ⟨rfl, k7⟩
                  go_wp2_with fail
                  go_ret
                  exact ⟨by rw [HF.out]; rfl, HK.out _ (k6.trans k7)⟩
            · rw [decide_eq_false hg0] at eg
              have HF : Hid (markR zs 2 gs bs at' = false) := by rw [Hid, HE.out, sweptR, decide_eq_false hg0]; simp
              clear hg0 HE
              go_wp2_with fail
              go_ret
              exact ⟨by rw [HF.out]; rfl, HK.out _ k4⟩
          · have e2 : (ph == 2) = false := by simpa using p2
            have HF : Hid (markR zs ph gs bs at' = false) := by
              rw [Hid, HE.out, decide_eq_false (by omega)]; rfl
            clear HE
            go_wp2_with fail
            go_ret
            exact ⟨by rw [HF.out]; rfl, HK.out _ k4⟩
end Go.Proofs.YtgempjjnfpmndaaGreatDoor
namespace Go.Proofs.YtgempjjnfpmndaaGreatDoor
open Go.RowKit

set_option maxHeartbeats 16000000 in
set_option maxRecDepth 100000 in
theorem impl_TriOk_ok (w : World) (ao ga ba : Option Addr) (cap gc bc : Nat) (zs gs bs : List Int) (ph at' : Int) (hI : Ints w ao zs) (hl : zs.length ≤ 1048576) (hm : MkI w ga ba gc bc gs bs) (hgn : ga = none → gc = 0) :
    Calls Tryz.prog 46 #[.agg #[.slice ao zs.length cap], .agg (mrkV ph ga gs.length gc ba bs.length bc at')] w fun e w' => e = .returned (.bool (triR zs ph gs bs at')) ∧ Kept w w' := by
  have hgl := hm.gl
  have hbl := hm.bl
  have b0 := (Cells.new w 39 #[.slice ao zs.length cap]).alloc (.cells (mrkV ph ga gs.length gc ba bs.length bc at') 40)
  have b1 := Cells.new (w.alloc (.cells #[.slice ao zs.length cap] 39)) 40 (mrkV ph ga gs.length gc ba bs.length bc at')
  have k0 : Kept w ((w.alloc (.cells #[.slice ao zs.length cap] 39)).alloc (.cells (mrkV ph ga gs.length gc ba bs.length bc at') 40)) := (Kept.alloc (Below.refl _ _) _).alloc _
  simp only [World.size_alloc] at b1
  have HI : Hid (∀ u, Kept w u → Ints u ao zs) := fun u hu => hI.kept hu
  have hMo := impl_MarkerOk_ok _ ao ga ba cap gc bc zs gs bs ph at' (hI.kept k0) hl (hm.kept k0) hgn
  have HMk : Hid (∀ u, Kept w u → Calls Tryz.prog 93 #[.agg #[.slice ao zs.length cap], .agg (mrkV ph ga gs.length gc ba bs.length bc at')] u fun e w' => ∃ v, e = .returned v ∧ MkgV u w' v ao cap zs gs bs ∧ Kept u w') := fun u hu => markingOf_ok u ao ga ba cap gc bc zs gs bs ph at' (hI.kept hu) hl (hm.g.kept hu) (hm.b.kept hu) hgl hbl hgn
  have c0 := b0.cell 0
  have m0 := b1.cell 0
  have m1 := b1.cell 1
  have m2 := b1.cell 2
  have m3 := b1.cell 3
  clear hI hm hgn
  cases hmr : markR zs ph gs bs at' with
  | false =>
    have HE : Hid (triR zs ph gs bs at' = false) := by rw [Hid, triR, hmr]; rfl
    rw [hmr] at hMo
    clear hmr
    go_enter Tryz.func46, Tryz.ntmps46
    go_wp2_with fail
    refine hMo.mono ?_
    rintro e w1 ⟨rfl, k1⟩
    go_wp2_with fail
    go_ret
    exact ⟨by rw [HE.out]; rfl, k0.trans k1⟩
  | true =>
    have HE : Hid (triR zs ph gs bs at' = closedR zs gs bs) := tri_is hmr
    obtain ⟨hok, hMg, hMb, _⟩ := markR_met hmr
    have hbR : blackR gs bs = true := by
      have h := hmr
      unfold markR at h
      simp only [Bool.and_eq_true] at h
      exact h.1.2
    have HBi : Hid _ := blacks_is (gs := gs) hok hMb hbR
    have HMb : Hid _ := hMb
    have HOk : Hid _ := hok
    rw [hmr] at hMo
    clear hmr hok hMg hMb hbR
    go_enter Tryz.func46, Tryz.ntmps46
    go_wp2_with fail
    refine hMo.mono ?_
    rintro e w1 ⟨rfl, k1⟩
    have s0 := (b0.kept k1).cell 0
    have n0 := (b1.kept k1).cell 0
    have n1 := (b1.kept k1).cell 1
    have n2 := (b1.kept k1).cell 2
    have n3 := (b1.kept k1).cell 3
    have K1 := k0.trans k1
    clear c0 m0 m1 m2 m3 hMo
    go_wp2_with fail
    refine (HMk.out w1 K1).mono ?_
    rintro e w2 ⟨v2, rfl, hv2, hk2⟩
    obtain ⟨lo, go, lc, gc2, rfl, hR⟩ := hv2.read HOk.out (HI.out _ (K1.trans hk2))
    have hcz := Cells.new w2 123 Tryz.zeroCells123
    go_upto_region 4 with (refine wpList_store_row (by rfl) 123 _ _ (by rfl) w2.heap.size _ (by rfl) (by rfl) _ _ hcz (by rw [mkC_size, colL_len]; exact infoMks) (by rw [mkC_size, colL_len]; exact zeroMk) mkC_one ?_)
    rw [World.setRow_alloc_new]
    have kS : Kept w2 (w2.alloc (.cells (mkC (.slice ao zs.length cap) (.slice lo zs.length lc) (colL gs bs) (.slice go gs.length gc2)) 123)) := Kept.alloc (Below.refl _ _) _
    have K2 := (K1.trans hk2).trans kS
    obtain ⟨WS, hWS⟩ : ∃ WS, w2.alloc (.cells (mkC (.slice ao zs.length cap) (.slice lo zs.length lc) (colL gs bs) (.slice go gs.length gc2)) 123) = WS := ⟨_, rfl⟩
    rw [hWS] at hR K2
    simp only [hWS]
    have hC := closed_ok WS w2.heap.size ao lo cap lc zs gs bs _ hR HOk.out HBi.out (fun a ha => HMb.out.2 a ha)
    obtain ⟨r3, hr3⟩ : ∃ r3, closedR zs gs bs = r3 := ⟨_, rfl⟩
    rw [hr3] at HE hC
    clear hr3 hWS kS hcz hR hv2 s0 n0 n1 n2 n3
    go_wp2_with fail
    refine hC.mono ?_
    rintro e w7 ⟨rfl, k7⟩
    go_wp2_with fail
    go_ret
    exact ⟨by rw [HE.out]; rfl, K2.trans k7⟩
end Go.Proofs.YtgempjjnfpmndaaGreatDoor
