/-
  The contract of places and of Reach (chapter 7's program).
-/
import Derived.Test.YtblonbdagidfjaaNumB
import Derived.Test.YtblonbdagidfjaaRchC
import Derived.Test.YtblonbdagidfjaaShfA
import Derived.Sort.OwnSorted
import Derived.Lib.OwnBridge
namespace Go.Proofs.Ytblonbdagidfjaa
open Go.RowKit Go.Maps
open Go.Sort (Holds putRow grow putCells mapBlock onCells heap_grow_old)
attribute [local go_sem] Plain.and7

/-- The keys that were met so far. -/
def Got (out : List Int) (left : Lit → Bool) (l : List Int) : Prop := l.Nodup ∧ ∀ a, a ∈ l ↔ (a ∈ out ∧ left (.int .i64 a) = false)
theorem Got.start {D : DataW Unit} {out : List Int} (h : NumIs D out) : Got out (Maps.has D) [] := ⟨List.nodup_nil, fun a => by rw [h.has]; simp⟩
theorem Got.step {out l : List Int} {left : Lit → Bool} (h : Got out left l) {x : Int} (hx : x ∈ out) (hl : left (.int .i64 x) = true) : Got out (fun z => left z && !z.sameKey (.int .i64 x)) (l ++ [x]) := by
  refine ⟨?_, fun a => ?_⟩
  · rw [List.nodup_append]
    refine ⟨h.1, by simp, fun y hy z hz e => ?_⟩
    simp at hz
    subst hz
    subst e
    have := ((h.2 y).1 hy).2
    rw [hl] at this
    cases this
  · simp only [List.mem_append, List.mem_singleton, sameN_key, Bool.and_eq_false_iff, Bool.not_eq_false', decide_eq_true_eq]
    rw [h.2]
    constructor
    · rintro (⟨h1, h2⟩ | rfl)
      · exact ⟨h1, .inl h2⟩
      · exact ⟨hx, .inr rfl⟩
    · rintro ⟨h1, h2 | h2⟩
      · exact .inl ⟨h1, h2⟩
      · exact .inr h2
theorem Got.len {out l : List Int} {left : Lit → Bool} (h : Got out left l) (ho : out.Nodup) : l.length ≤ out.length := by
  have hp : l.Perm (out.filter fun a => !left (.int .i64 a)) := (List.perm_ext_iff_of_nodup h.1 (ho.filter _)).2 (fun a => by rw [h.2]; simp)
  rw [hp.length_eq]
  exact List.length_filter_le _ _
theorem NumIs.met {D : DataW Unit} {out : List Int} (h : NumIs D out) {x c : Int} (hat : ∀ zd, D.atKey (.int .i64 x) zd = .lit (.int .i64 c)) : x ∈ out ∧ ∃ k : Nat, c = k ∧ out[k]? = some x := by
  have hh := has_true_of_atKey hat
  rw [h.has] at hh
  have hx : x ∈ out := by simpa using hh
  obtain ⟨k, hk, e⟩ := List.getElem_of_mem hx
  have hs : out[k]? = some x := by rw [List.getElem?_eq_getElem hk, e]
  refine ⟨hx, k, ?_, hs⟩
  have := h.val k x hs (.map [])
  rw [hat] at this
  injection this with this
  injection this
theorem sorted_row {W : World} {base g cap n : Nat} {os : Array Obj} {cur : Array Value} {ss ts : List Int} (hl : ts.length = ss.length) (hbase : base ≤ g) (hb : W.heap[g]? = some (.cells cur 3 (0, 0)))
    (h1 : ss.length ≤ cap) (h2 : cap ≤ maxLen) (h3 : cur.size = cap * 1) :
    (grow (putRow (Value.int .i64) (Sort.ahead W n) g 0 ts.toArray) os).ownsRow base 3 1 (.slice (some ⟨g, 0, none⟩) ss.length cap) ss.length (ts.map (Value.int .i64)) := by
  have hg : g < W.heap.size := (Array.getElem?_eq_some_iff.1 hb).1
  refine ⟨by simp [hl], .inr ⟨g, cap, putCells (Value.int .i64) 0 ts.toArray cur, rfl, hbase, ?_, h1, h2, by simp [putCells, h3], ?_⟩⟩
  · rw [heap_grow_old _ _ (by simpa using hg)]
    simp [putRow, mapBlock, Sort.ahead, Array.getElem?_modify, hb, onCells]
  · rw [Nat.mul_one, ← hl]
    apply List.ext_getElem?
    intro j
    by_cases hj : j < ts.length
    · rw [List.getElem?_take_of_lt hj, Array.getElem?_toList]
      simp [putCells, hj, show j < cur.size by omega]
    · rw [List.getElem?_take_eq_none (by omega), List.getElem?_eq_none (by simp; omega)]
theorem sorted_grown {W : World} {g n : Nat} {os : Array Obj} (d : Array Int) : W.grownBy (grow (putRow (Value.int .i64) (Sort.ahead W n) g 0 d) os) (some g) := by
  refine ⟨rfl, rfl, rfl, by simp, fun k hk hne => ?_⟩
  rw [heap_grow_old _ _ (by simpa using hk)]
  have : g ≠ k := fun e => hne (by rw [e])
  simp [putRow, mapBlock, Sort.ahead, Array.getElem?_modify, this]
set_option maxHeartbeats 8000000 in
set_option maxRecDepth 100000 in
theorem places_ok (w : World) (b : Nat) (out : List Int) (hol : out.length ≤ 1048576) (hob : ∀ a ∈ out, -9223372036854775808 ≤ a ∧ a ≤ 9223372036854775807) (hN : NumMap w b out) :
    Calls Try.prog 29 #[.map (some b)] w fun e w' => ∃ v, e = .returned v ∧ OwnL w' w.heap.size v (sortL out) ∧ Kept w w' := by
  obtain ⟨i0, hi, hz0, hz1, hz2⟩ := info_parts infoI
  obtain ⟨n, D, hown, hD, hn⟩ := hN
  have hbw := hown.lt
  go_enter Try.func29, Try.ntmps29
  go_wp2_with (first
    | (at_range; refine wpList_range_own _ rfl _ 43 rfl 3 3 lawN Try.underlying43 _ b n _ rfl hown ?_; intro w0 hrg0 hg0 hs0)
    | go_in)
  go_frame
  go_loopw [3, 4] (fun v _ wr => ∃ (left : Lit → Bool) (cnt : Nat) (l : List Int), wr.ranges Try.prog 3 (plainElem Try.prog 3) b w.heap.size n D left cnt ∧ Got out left l ∧ wr.ownsRow (w.heap.size + 1) 3 1 v l.length (l.map (Value.int .i64)) ∧ Kept w wr ∧ w.heap.size + 1 ≤ wr.heap.size)
    (fun _ _ wr => wr.rangeLeft b w.heap.size)
  case atStart => exact ⟨_, _, [], hrg0, Got.start hD, ⟨by simp, .inl ⟨rfl, rfl⟩⟩, (Below.refl _ _).grown hg0 (Nat.le_refl _) (by simp), by omega⟩
  case round =>
    obtain ⟨left, cnt, l, hrg, hL, hrow, hK, hsz⟩ := hrel
    have hll := hL.len hD.nodup
    go_wp2_with (first
      | (at_next; refine wpList_next_ranges_ii _ rfl _ rfl 3 3 .i64 .i64 lawN Try.underlying3 Try.underlying3 b w.heap.size n _ _ _ rfl hrg ?_ ?_)
      | go_in)
    · intro _ hl0
      have hmem : ∀ a, a ∈ l ↔ a ∈ out := fun a => by rw [hL.2, hl0]; simp
      have HS : Hid (l.mergeSort (fun x y => decide (x ≤ y)) = sortL out) := sorted_same hL.1 hD.nodup hmem
      have HB : Hid (∀ z ∈ sortL out, -9223372036854775808 ≤ z ∧ z ≤ 9223372036854775807) := fun z hz => hob z (by
        have := (mem_sortF out []).1 hz
        simpa using this)
      have HK : Hid (Kept w wr) := hK
      have hll2 : l.length ≤ 1048576 := by omega
      clear hl0 hmem hK hL hD hob hn hrg hrg0
      rcases (id hrow.2) with ⟨rfl, h0⟩ | ⟨g, cap, cur, rfl, hbg, hgg, hnc, hcm, hcs, htk⟩
      · obtain rfl : l = [] := List.eq_nil_of_length_eq_zero h0
        go_wp2_with (go_at_call 47; refine (lib_slices_Sort_int_none none 0 _).mono ?_; rintro e wx ⟨rfl, rfl⟩)
        go_ret
        refine ⟨_, rfl, ⟨HB.out, ?_⟩, HK.out⟩
        rw [← HS.out, List.mergeSort_nil]
        exact ⟨by simp, .inl ⟨rfl, rfl⟩⟩
      · have hgw := (Array.getElem?_eq_some_iff.1 hgg).1
        have hH : Holds (Value.int .i64) wr g 0 l.toArray := by
          obtain ⟨g', cap', e1, _, _, _, _, _, hH⟩ := Lib.holds_of_ownsRow hrow (by simp)
          cases e1
          exact hH
        have hSrt := lib_slices_Sort_int g 0 cap l wr hH hgw (by omega)
        have HR : Hid (∀ nn os, (grow (putRow (Value.int .i64) (Sort.ahead wr nn) g 0 (l.mergeSort fun x y => decide (x ≤ y)).toArray) os).ownsRow (w.heap.size + 1) 3 1 (.slice (some ⟨g, 0, none⟩) l.length cap) l.length ((l.mergeSort fun x y => decide (x ≤ y)).map (Value.int .i64))) := fun nn os => sorted_row (by simp) hbg hgg hnc hcm hcs
        obtain ⟨ts, hts⟩ : ∃ ts, (l.mergeSort fun x y => decide (x ≤ y)) = ts := ⟨_, rfl⟩
        have HTL : Hid (ts.length = l.length) := by rw [Hid, ← hts]; simp
        rw [hts] at hSrt HR HS
        have HG : Hid (∀ nn os, wr.grownBy (grow (putRow (Value.int .i64) (Sort.ahead wr nn) g 0 ts.toArray) os) (some g)) := fun nn os => sorted_grown _
        have HBG : Hid (w.heap.size + 1 ≤ g) := hbg
        clear hH hrow hts hcs htk hgg hnc hcm
        go_wp2_with (go_at_call 47; refine hSrt.mono ?_; rintro e wx ⟨rfl, nn, os, rfl⟩)
        go_ret
        have K2 : Kept w (grow (putRow (Value.int .i64) (Sort.ahead wr nn) g 0 ts.toArray) os) := Below.grown HK.out (HG.out nn os) (HK.out).size (fun j ej => by cases ej; have := HBG.out; omega)
        refine ⟨_, rfl, ⟨HB.out, ?_⟩, K2⟩
        rw [← HS.out]
        have hr := HR.out nn os
        rw [← HTL.out] at hr ⊢
        exact ownsRow_base hr (by omega)
    · intro x c w1 cnt1 hwx hwc hlx hat hrg1 hlt hg1 hs1 hen
      have HG : Hid (Got out (fun z => left z && !z.sameKey (.int .i64 x)) (l ++ [x])) := hL.step (hD.met hat).1 hlx
      have hK1 : Kept w w1 := Kept.grownRow hK hg1 (fun j hj => by cases hj; exact Nat.le_refl _)
      have hrow1 := hrow.keptOld hg1 (Nat.lt_succ_self _)
      have hsz1 : w.heap.size + 1 ≤ w1.heap.size := Nat.le_trans hsz hg1.size
      clear hat hK hs1
      go_wp2_with (first | (at_builtin; refine wpList_append_own _ rfl _ _ 22 rfl (w.heap.size + 1) 3 i0 (.int .i64 0) 1 8 Try.underlying22 hi hz0 hz1 hz2 rfl (by decide) _ _ _ rfl (hrow1.alloc _) ⟨w1.heap.size, 0, none⟩ 1 1 [.int .i64 x] rfl rfl (cell_one_new _ _ _) (by simp [Value.oneCell']) (by unfold maxLen; omega) (by omega) (by simp; omega) ?_; intro v' w5 hown' hgrow _))
      have kk : Below (w.heap.size + 1) w1 w5 := ((Below.refl _ w1).alloc hsz1 _).grown hgrow (by simp; omega) (fun j ej => (hrow1.lt j ej).1)
      have hrg5 := (hrg1.kept (World.grownBy_alloc w1 (.cells #[.int .i64 x] 3) none) (by simp) (by simp)).kept hgrow (hrow1.notOld (by omega)) (hrow1.notOld (by omega))
      go_roundw
      case rel => exact ⟨_, cnt1, l ++ [x], hrg5, HG.out, by simpa using hown', Below.trans hK1 (kk.mono (by omega)), Nat.le_trans hsz1 kk.size⟩
      case measure => rw [hrg5.left_eq, hrg.left_eq]; exact hlt
set_option maxHeartbeats 8000000 in
set_option maxRecDepth 100000 in
theorem impl_Reach_ok (w : World) (ao ro : Option Addr) (cap rc : Nat) (zs rs : List Int) (hI : Ints w ao zs) (hl : zs.length ≤ 1048576) (hR : Ints w ro rs) (hrl : rs.length ≤ 1048576) :
    Calls Try.prog 10 #[.agg #[.slice ao zs.length cap], .slice ro rs.length rc] w fun e w' => ∃ v, e = .returned v ∧ OwnL w' w.heap.size v (reachL zs rs) ∧ Kept w w' := by
  have b0 := Cells.new w 27 #[.slice ao zs.length cap]
  have k0 : Kept w (w.alloc (.cells #[.slice ao zs.length cap] 27)) := Kept.alloc (Below.refl _ _) _
  have hRo := impl_RootsOk_ok _ ao ro cap rc zs rs (hI.kept k0) hl (hR.kept k0) hrl
  cases hr : rootsR zs rs with
  | false =>
    have HR : Hid (reachL zs rs = []) := by simp [Hid, reachL, hr]
    rw [hr] at hRo
    clear hr hI hR
    go_enter Try.func10, Try.ntmps10
    go_wp2_with (go_at_call 27; refine hRo.mono ?_; rintro e w1 ⟨rfl, hk1⟩)
    go_ret
    exact ⟨_, rfl, by rw [HR.out]; exact ⟨by simp, by simp, .inl ⟨rfl, rfl⟩⟩, k0.trans hk1⟩
  | true =>
    have HR : Hid (reachL zs rs = sortL (ordL zs rs)) := by simp [Hid, reachL, hr]
    rw [hr] at hRo
    have hM := ordL_met hr
    have hol := hM.len
    have hob := hM.bd hl
    have HMF : Hid _ := fun (u : World) (hu : Kept w u) => metFrom_ok u ao ro cap rc zs rs (hI.kept hu) hl (hR.kept hu) hrl hr
    have HPl : Hid _ := fun (u : World) (b : Nat) (hu : NumMap u b (ordL zs rs)) => places_ok u b (ordL zs rs) (by omega) hob hu
    clear hr hI hR hM hob
    go_enter Try.func10, Try.ntmps10
    go_wp2_with (first | (go_at_call 27; refine hRo.mono ?_; rintro e w1 ⟨rfl, hk1⟩; have c1 := (b0.kept hk1).cell 0) | (go_at_call 28; refine (HMF.out _ (k0.trans hk1)).mono ?_; rintro e w2 ⟨b2, rfl, hb2, hN2, hk2⟩) | (go_at_call 29; refine (HPl.out _ b2 hN2).mono ?_; rintro e w3 ⟨v3, rfl, hO3, hk3⟩))
    go_ret
    have K2 := (k0.trans hk1).trans hk2
    refine ⟨_, rfl, ?_, K2.trans hk3⟩
    rw [HR.out]
    exact ⟨hO3.1, ownsRow_base hO3.2 K2.size⟩
end Go.Proofs.Ytblonbdagidfjaa
