/-
  The contracts of what the laws do with rows of texts and rows of such rows: how many, a copy, whether two are the same; and how such an argument is read.
-/
import Derived.Test.YtcecoicblejifaaFndA
import Derived.BigQuiet
import Derived.Deep.RegionWith
import Derived.ProofKit
import Derived.OpenShut
import Derived.Carry
import Derived.Deep.Slices
import Derived.ChangeMaps5
namespace Go.Proofs.Ytcecoicblejifaa
open Go.ChangeShapes Go.WideShapes Go.ChangeAt Go.RowKit
attribute [local go_sem] Plain.and7

/-- How many texts and letters. -/
def sumT : List ByteArray → Nat
  | [] => 0
  | t :: ts => t.size + sumT ts
def blkT (ts : List ByteArray) : Nat := ts.length + sumT ts
def sumTT : List (List ByteArray) → Nat
  | [] => 0
  | t :: ts => blkT t + sumTT ts
def blkTT (tss : List (List ByteArray)) : Nat := tss.length + sumTT tss
theorem sumT_take {ts : List ByteArray} {k : Nat} {x : ByteArray} (h : ts[k]? = some x) : sumT (ts.take (k + 1)) = sumT (ts.take k) + x.size := by
  induction ts generalizing k with
  | nil => simp at h
  | cons t ts ih =>
    cases k with
    | zero => simp at h; subst h; simp [sumT]
    | succ k => simp at h; simp [sumT, ih h]; omega
theorem sumT_le (ts : List ByteArray) (k : Nat) : sumT (ts.take k) ≤ sumT ts := by
  induction ts generalizing k with
  | nil => simp [sumT]
  | cons t ts ih =>
    cases k with
    | zero => simp [sumT]
    | succ k => simp [sumT, ih k]
theorem sumTT_take {ts : List (List ByteArray)} {k : Nat} {x : List ByteArray} (h : ts[k]? = some x) : sumTT (ts.take (k + 1)) = sumTT (ts.take k) + blkT x := by
  induction ts generalizing k with
  | nil => simp at h
  | cons t ts ih =>
    cases k with
    | zero => simp at h; subst h; simp [sumTT]
    | succ k => simp at h; simp [sumTT, ih h]; omega
theorem sumTT_le (ts : List (List ByteArray)) (k : Nat) : sumTT (ts.take k) ≤ sumTT ts := by
  induction ts generalizing k with
  | nil => simp [sumTT]
  | cons t ts ih =>
    cases k with
    | zero => simp [sumTT]
    | succ k => simp [sumTT, ih k]
theorem sumTT_mem {ts : List (List ByteArray)} {x : List ByteArray} (h : x ∈ ts) : blkT x ≤ sumTT ts := by
  induction ts with
  | nil => simp at h
  | cons t ts ih =>
    rcases List.mem_cons.1 h with rfl | h
    · simp [sumTT]
    · have := ih h; simp [sumTT]; omega
def leftT (l : Int) (n : Nat) : Int := if (n : Int) ≤ l then l - n else -1
def FitT (ts : List ByteArray) : Prop := ts.length ≤ maxLen ∧ ∀ t ∈ ts, t.size ≤ maxLen
set_option maxHeartbeats 8000000 in
set_option maxRecDepth 100000 in
theorem szStringS_ok (w : World) (ao : Option Addr) (cap : Nat) (ts : List ByteArray) (l : Int) (hA : StA w ao ts) (hF : FitT ts) (h0 : 0 ≤ l) (h1 : l ≤ 1048576) :
    Calls Try.prog 9 #[.slice ao ts.length cap, .int .i64 l] w fun e w' => e = .returned (.int .i64 (leftT l (blkT ts))) ∧ w' = w := by
  have HA : Hid _ := hA
  have HF : Hid _ := hF
  have hml' : ts.length ≤ 9223372036854775807 := by have := hF.1; unfold maxLen at this; omega
  clear hA hF
  by_cases hneg : l - (ts.length : Int) < 0
  · have HL : Hid (leftT l (blkT ts) = -1) := by rw [Hid, leftT, if_neg (by unfold blkT; omega)]
    go_enter Try.func9, Try.ntmps9
    go_wp2_with fail
    go_ret
    exact ⟨by rw [HL.out]; rfl, rfl⟩
  · go_enter Try.func9, Try.ntmps9
    go_wp2_with fail
    go_loopw [1, 5] (fun lv iv wr => ∃ (k : Nat), iv = .int .i64 k ∧ k ≤ ts.length ∧ ∃ r, lv = .int .i64 r ∧ Hid (r = l - (ts.length : Int) - ((sumT (ts.take k) : Nat) : Int) ∧ (ts.length : Int) + ((sumT (ts.take k) : Nat) : Int) ≤ l) ∧ HidW wr w) (fun _ i _ => ts.length - (intOf i).toNat)
    case atStart => exact ⟨0, rfl, Nat.zero_le _, _, rfl, ⟨by simp [sumT], by simp [sumT]; omega⟩, ⟨rfl⟩⟩
    case round =>
      obtain ⟨k, rfl, hk, r0, rfl, hre, HW⟩ := hrel
      obtain ⟨hr00, hle⟩ := hre.out
      obtain rfl := HW.out
      by_cases hlt : k < ts.length
      · obtain ⟨x, hx⟩ : ∃ x, ts[k]? = some x := ⟨ts[k], List.getElem?_eq_getElem hlt⟩
        have q1 : (k : Int) < (ts.length : Int) := by omega
        have q2 : (k : Int) + 1 ≤ 9223372036854775807 := by omega
        have hst := sumT_take hx
        have hsl := sumT_le ts (k + 1)
        have hxs : x.size ≤ 9223372036854775807 := by have := HF.out.2 x (List.mem_of_getElem? hx); unfold maxLen at this; omega
        obtain ⟨b, off, rfl, hc⟩ := HA.out k x hx
        have hr1 : 0 ≤ r0 := by omega
        have hr2 : r0 ≤ 1048576 := by omega
        by_cases hf : (x.size : Int) ≤ r0
        · have HN : Hid (r0 - (x.size : Int) = l - (ts.length : Int) - ((sumT (ts.take (k + 1)) : Nat) : Int) ∧ (ts.length : Int) + ((sumT (ts.take (k + 1)) : Nat) : Int) ≤ l) := ⟨by omega, by omega⟩
          have hd : decide (r0 - (x.size : Int) < 0) = false := decide_eq_false (by omega)
          clear hst hsl hle hr00 hre HF HA hneg h0 h1 hml' hx
          go_wp2_with fail
          exact ⟨⟨k + 1, by go_num, by omega, _, rfl, HN.out, ⟨rfl⟩⟩, by simp [intOf]; omega⟩
        · have HL : Hid (leftT l (blkT ts) = -1) := by rw [Hid, leftT, if_neg (by unfold blkT; omega)]
          have hd : decide (r0 - (x.size : Int) < 0) = true := decide_eq_true (by omega)
          clear hst hsl hle hr00 hre HF HA hneg h0 h1 hml' hx
          go_wp2_with fail
          go_ret
          exact ⟨by rw [HL.out]; rfl, rfl⟩
      · have q1 : ¬ (k : Int) < (ts.length : Int) := by omega
        have HL : Hid (leftT l (blkT ts) = r0) := by
          have e : k = ts.length := by omega
          rw [e, List.take_length] at hle hr00
          rw [Hid, blkT, leftT, if_pos (by omega)]
          omega
        clear hr00 hle
        go_wp2_with fail
        go_ret
        exact ⟨by rw [HL.out]; rfl, rfl⟩
set_option maxHeartbeats 8000000 in
set_option maxRecDepth 100000 in
theorem szStringSS_ok (w : World) (ao : Option Addr) (cap : Nat) (tss : List (List ByteArray)) (l : Int) (hA : SsA w ao tss) (hm : tss.length ≤ maxLen) (hF : ∀ ts ∈ tss, FitT ts) (h0 : 0 ≤ l) (h1 : l ≤ 1048576) :
    Calls Try.prog 4 #[.slice ao tss.length cap, .int .i64 l] w fun e w' => e = .returned (.int .i64 (leftT l (blkTT tss))) ∧ w' = w := by
  have HA : Hid _ := hA
  have HF : Hid _ := hF
  have hml' : tss.length ≤ 9223372036854775807 := by unfold maxLen at hm; omega
  clear hA hF hm
  by_cases hneg : l - (tss.length : Int) < 0
  · have HL : Hid (leftT l (blkTT tss) = -1) := by rw [Hid, leftT, if_neg (by unfold blkTT; omega)]
    go_enter Try.func4, Try.ntmps4
    go_wp2_with fail
    go_ret
    exact ⟨by rw [HL.out]; rfl, rfl⟩
  · go_enter Try.func4, Try.ntmps4
    go_wp2_with fail
    go_loopw [1, 5] (fun lv iv wr => ∃ (k : Nat), iv = .int .i64 k ∧ k ≤ tss.length ∧ ∃ r, lv = .int .i64 r ∧ Hid (r = l - (tss.length : Int) - ((sumTT (tss.take k) : Nat) : Int) ∧ (tss.length : Int) + ((sumTT (tss.take k) : Nat) : Int) ≤ l) ∧ HidW wr w) (fun _ i _ => tss.length - (intOf i).toNat)
    case atStart => exact ⟨0, rfl, Nat.zero_le _, _, rfl, ⟨by simp [sumTT], by simp [sumTT]; omega⟩, ⟨rfl⟩⟩
    case round =>
      obtain ⟨k, rfl, hk, r0, rfl, hre, HW⟩ := hrel
      obtain ⟨hr00, hle⟩ := hre.out
      obtain rfl := HW.out
      by_cases hlt : k < tss.length
      · obtain ⟨x, hx⟩ : ∃ x, tss[k]? = some x := ⟨tss[k], List.getElem?_eq_getElem hlt⟩
        have q1 : (k : Int) < (tss.length : Int) := by omega
        have q2 : (k : Int) + 1 ≤ 9223372036854775807 := by omega
        have hst := sumTT_take hx
        have hsl := sumTT_le tss (k + 1)
        obtain ⟨b, off, xo, xc, rfl, hc, hX⟩ := HA.out k x hx
        have hr1 : 0 ≤ r0 := by omega
        have hr2 : r0 ≤ 1048576 := by omega
        have hC := szStringS_ok wr xo xc x r0 hX (HF.out x (List.mem_of_getElem? hx)) hr1 hr2
        by_cases hf : ((blkT x : Nat) : Int) ≤ r0
        · rw [show leftT r0 (blkT x) = r0 - ((blkT x : Nat) : Int) from if_pos hf] at hC
          obtain ⟨r, hr⟩ : ∃ r, r0 - ((blkT x : Nat) : Int) = r := ⟨_, rfl⟩
          have HN : Hid (r = l - (tss.length : Int) - ((sumTT (tss.take (k + 1)) : Nat) : Int) ∧ (tss.length : Int) + ((sumTT (tss.take (k + 1)) : Nat) : Int) ≤ l) := ⟨by omega, by omega⟩
          rw [hr] at hC
          have hd : decide (r < 0) = false := decide_eq_false (by omega)
          clear hr hst hsl hle hr00 hre HF HA hneg h0 h1 hml' hx hX hf hr1 hr2
          go_wp2_with (go_at_call 9; refine hC.mono ?_; rintro e wx ⟨rfl, rfl⟩)
          exact ⟨⟨k + 1, by go_num, by omega, r, rfl, HN.out, ⟨rfl⟩⟩, by simp [intOf]; omega⟩
        · rw [show leftT r0 (blkT x) = -1 from if_neg hf] at hC
          have HL : Hid (leftT l (blkTT tss) = -1) := by rw [Hid, leftT, if_neg (by unfold blkTT; omega)]
          clear hst hsl hle hr00 hre HF HA hneg h0 h1 hml' hx hX hf hr1 hr2
          go_wp2_with (go_at_call 9; refine hC.mono ?_; rintro e wx ⟨rfl, rfl⟩)
          go_ret
          exact ⟨by rw [HL.out]; rfl, rfl⟩
      · have q1 : ¬ (k : Int) < (tss.length : Int) := by omega
        have HL : Hid (leftT l (blkTT tss) = r0) := by
          have e : k = tss.length := by omega
          rw [e, List.take_length] at hle hr00
          rw [Hid, blkTT, leftT, if_pos (by omega)]
          omega
        clear hr00 hle
        go_wp2_with fail
        go_ret
        exact ⟨by rw [HL.out]; rfl, rfl⟩
theorem infoStr : (Try.prog.info? 9).map (fun i => (i.zero, i.size, i.bytes)) = some (some (.string ⟨#[]⟩), 1, 16) := by kernel_rfl
/-- The cells of a row whose first k texts are told. -/
def RowT (W : World) (g : Nat) (ts : List ByteArray) (k : Nat) : Prop := ∃ cs, Cells W g 9 cs ∧ cs.size = ts.length ∧ ∀ j t, j < k → ts[j]? = some t → cs[j]? = some (.string t)
theorem RowT.next {W : World} {g : Nat} {ts : List ByteArray} {k : Nat} {x : ByteArray} (h : RowT W g ts k) (hx : ts[k]? = some x) : RowT (W.setCell ⟨g, k, none⟩ (.string x)) g ts (k + 1) := by
  obtain ⟨cs, h1, h2, h3⟩ := h
  have hlt : k < ts.length := (List.getElem?_eq_some_iff.1 hx).1
  refine ⟨_, h1.set k (.string x), by simp [h2], fun j t hj ht => ?_⟩
  by_cases hjk : j = k
  · subst hjk
    rw [hx] at ht
    injection ht with ht
    subst ht
    simp [Array.getElem?_setIfInBounds, h2]
    omega
  · rw [Array.getElem?_setIfInBounds_ne (by omega)]
    exact h3 j t (by omega) ht
theorem RowT.done {W : World} {g : Nat} {ts : List ByteArray} (h : RowT W g ts ts.length) : StA W (some ⟨g, 0, none⟩) ts := by
  obtain ⟨cs, h1, h2, h3⟩ := h
  intro j t ht
  have hh : W.heap[g]? = some _ := h1
  exact ⟨g, 0, rfl, by simp [World.cell?, hh, h3 j t (List.getElem?_eq_some_iff.1 ht).1 ht]⟩
theorem StA.other {W : World} {x g k : Nat} {ts : List ByteArray} {v : Value} (h : StA W (some ⟨x, 0, none⟩) ts) (hx : g ≠ x) : StA (W.setCell ⟨g, k, none⟩ v) (some ⟨x, 0, none⟩) ts := by
  intro j t ht
  obtain ⟨b, off, e, hc⟩ := h j t ht
  refine ⟨b, off, e, ?_⟩
  simp at e
  obtain ⟨rfl, rfl⟩ := e
  rw [← hc]
  have e := Below.heap_setCell W ⟨g, k, none⟩ v x (by simpa using hx.symm)
  simp only [World.cell?, e]
set_option maxHeartbeats 8000000 in
set_option maxRecDepth 100000 in
theorem toStringS_ok (w : World) (ao : Option Addr) (cap : Nat) (ts : List ByteArray) (hA : StA w ao ts) (hl : ts.length ≤ 1048576) :
    Calls Try.prog 10 #[.slice ao ts.length cap] w fun e w' => e = .returned (.slice (some ⟨w.heap.size, 0, none⟩) ts.length ts.length) ∧ StA w' (some ⟨w.heap.size, 0, none⟩) ts ∧ Kept w w' := by
  obtain ⟨i0, hi, hz0, hz1, hz2⟩ := info_parts infoStr
  have HA : Hid _ := hA
  clear hA
  go_enter Try.func10, Try.ntmps10
  go_wp2_with (at_make; refine wpList_make_full _ rfl _ _ 30 rfl w.heap.size 9 i0 (.string ⟨#[]⟩) 1 Try.underlying30 hi hz0 hz1 .i64 .i64 _ _ ts.length rfl rfl rfl rfl (by rw [hz2]; omega) (by unfold maxLen; omega) (Nat.le_refl _) ?_; intro w1 hown hgrow)
  have hR : RowT w1 w.heap.size ts 0 := by
    obtain ⟨_, ⟨e, _⟩ | ⟨g', cap', cur, e, hb, hg, h1, h2, h3, h4⟩⟩ := hown
    · cases e
    · simp at e
      obtain ⟨rfl, rfl⟩ := e
      exact ⟨cur, hg, by simpa using h3, fun j t hj => by omega⟩
  have hK : Kept w w1 := (Below.refl _ w).grown hgrow (Nat.le_refl _) (by simp)
  have HR0 : Hid _ := hR
  have HK0 : Hid (Kept w w1) := hK
  clear hown hgrow hR hK
  go_loopw [4] (fun iv wr => ∃ (k : Nat), iv = .int .i64 k ∧ k ≤ ts.length ∧ Hid (RowT wr w.heap.size ts k) ∧ Hid (Kept w wr)) (fun i _ => ts.length - (intOf i).toNat)
  case atStart => exact ⟨0, rfl, Nat.zero_le _, HR0.out, HK0.out⟩
  case round =>
    obtain ⟨k, rfl, hk, hR, hK⟩ := hrel
    clear HR0 HK0
    by_cases hlt : k < ts.length
    · obtain ⟨x, hx⟩ : ∃ x, ts[k]? = some x := ⟨ts[k], List.getElem?_eq_getElem hlt⟩
      have q1 : (k : Int) < (ts.length : Int) := by omega
      obtain ⟨b, off, rfl, hc⟩ := (StA.kept HA.out hK.out) k x hx
      have HX : Hid (ts[k]? = some x) := hx
      obtain ⟨cs, hcs, hcz, _⟩ := id hR.out
      have z0 : wr.cell? ⟨w.heap.size, k, none⟩ = some (cs[k]'(by omega)) := by
        have hh : wr.heap[w.heap.size]? = some _ := hcs
        simp [World.cell?, hh, show k < cs.size by omega]
      have y0 := hcs.frozen k
      clear hx hcs
      go_wp2_with fail
      go_roundw
      case rel => exact ⟨k + 1, by go_num, by omega, RowT.next hR.out HX.out, hK.out.set (by simp) _⟩
      case measure => simp [intOf]; omega
    · have q1 : ¬ (k : Int) < (ts.length : Int) := by omega
      have HR : Hid (StA wr (some ⟨w.heap.size, 0, none⟩) ts) := RowT.done (by have := hR.out; rwa [show k = ts.length by omega] at this)
      go_wp2_with fail
      go_ret
      exact ⟨rfl, HR.out, hK.out⟩
theorem infoStrs : (Try.prog.info? 30).map (fun i => (i.zero, i.size, i.bytes)) = some (some (.slice none 0 0), 1, 24) := by kernel_rfl
def RowTT (W : World) (g : Nat) (tss : List (List ByteArray)) (k : Nat) : Prop := ∃ cs, Cells W g 30 cs ∧ cs.size = tss.length ∧ ∀ j ts, j < k → tss[j]? = some ts → ∃ x, cs[j]? = some (.slice (some ⟨x, 0, none⟩) ts.length ts.length) ∧ g < x ∧ StA W (some ⟨x, 0, none⟩) ts
theorem RowTT.on {W W' : World} {g : Nat} {tss : List (List ByteArray)} {k : Nat} (h : RowTT W g tss k) (hk : Kept W W') : RowTT W' g tss k := by
  obtain ⟨cs, h1, h2, h3⟩ := h
  refine ⟨cs, h1.kept hk, h2, fun j t hj ht => ?_⟩
  obtain ⟨x, e, hx, hs⟩ := h3 j t hj ht
  exact ⟨x, e, hx, hs.kept hk⟩
theorem RowTT.next {W : World} {g y : Nat} {tss : List (List ByteArray)} {k : Nat} {x : List ByteArray} (h : RowTT W g tss k) (hx : tss[k]? = some x) (hy : g < y) (hs : StA W (some ⟨y, 0, none⟩) x) : RowTT (W.setCell ⟨g, k, none⟩ (.slice (some ⟨y, 0, none⟩) x.length x.length)) g tss (k + 1) := by
  obtain ⟨cs, h1, h2, h3⟩ := h
  have hlt : k < tss.length := (List.getElem?_eq_some_iff.1 hx).1
  refine ⟨_, h1.set k _, by simp [h2], fun j t hj ht => ?_⟩
  by_cases hjk : j = k
  · subst hjk
    rw [hx] at ht
    injection ht with ht
    subst ht
    refine ⟨y, ?_, hy, hs.other (by omega)⟩
    simp [Array.getElem?_setIfInBounds, h2]
    omega
  · rw [Array.getElem?_setIfInBounds_ne (by omega)]
    obtain ⟨z, e, hz, hs⟩ := h3 j t (by omega) ht
    exact ⟨z, e, hz, hs.other (by omega)⟩
theorem RowTT.done {W : World} {g : Nat} {tss : List (List ByteArray)} (h : RowTT W g tss tss.length) : SsA W (some ⟨g, 0, none⟩) tss := by
  obtain ⟨cs, h1, h2, h3⟩ := h
  intro j t ht
  have hh : W.heap[g]? = some _ := h1
  obtain ⟨x, e, _, hs⟩ := h3 j t (List.getElem?_eq_some_iff.1 ht).1 ht
  exact ⟨g, 0, _, _, rfl, by simp [World.cell?, hh, e]; rfl, hs⟩
set_option maxHeartbeats 8000000 in
set_option maxRecDepth 100000 in
theorem toStringSS_ok (w : World) (ao : Option Addr) (cap : Nat) (tss : List (List ByteArray)) (hA : SsA w ao tss) (hl : tss.length ≤ 1048576) (hi' : ∀ ts ∈ tss, ts.length ≤ 1048576) :
    Calls Try.prog 6 #[.slice ao tss.length cap] w fun e w' => e = .returned (.slice (some ⟨w.heap.size, 0, none⟩) tss.length tss.length) ∧ SsA w' (some ⟨w.heap.size, 0, none⟩) tss ∧ Kept w w' := by
  obtain ⟨i0, hi, hz0, hz1, hz2⟩ := info_parts infoStrs
  have HA : Hid _ := hA
  have HI : Hid _ := hi'
  clear hA hi'
  go_enter Try.func6, Try.ntmps6
  go_wp2_with (at_make; refine wpList_make_full _ rfl _ _ 22 rfl w.heap.size 30 i0 (.slice none 0 0) 1 Try.underlying22 hi hz0 hz1 .i64 .i64 _ _ tss.length rfl rfl rfl rfl (by rw [hz2]; omega) (by unfold maxLen; omega) (Nat.le_refl _) ?_; intro w1 hown hgrow)
  have hR : RowTT w1 w.heap.size tss 0 := by
    obtain ⟨_, ⟨e, _⟩ | ⟨g', cap', cur, e, hb, hg, h1, h2, h3, h4⟩⟩ := hown
    · cases e
    · simp at e
      obtain ⟨rfl, rfl⟩ := e
      exact ⟨cur, hg, by simpa using h3, fun j t hj => by omega⟩
  have hK : Kept w w1 := (Below.refl _ w).grown hgrow (Nat.le_refl _) (by simp)
  have HR0 : Hid _ := hR
  have HK0 : Hid (Kept w w1) := hK
  clear hown hgrow hR hK
  go_loopw [4] (fun iv wr => ∃ (k : Nat), iv = .int .i64 k ∧ k ≤ tss.length ∧ Hid (RowTT wr w.heap.size tss k) ∧ Hid (Kept w wr)) (fun i _ => tss.length - (intOf i).toNat)
  case atStart => exact ⟨0, rfl, Nat.zero_le _, HR0.out, HK0.out⟩
  case round =>
    obtain ⟨k, rfl, hk, hR, hK⟩ := hrel
    clear HR0 HK0
    by_cases hlt : k < tss.length
    · obtain ⟨x, hx⟩ : ∃ x, tss[k]? = some x := ⟨tss[k], List.getElem?_eq_getElem hlt⟩
      have q1 : (k : Int) < (tss.length : Int) := by omega
      obtain ⟨b, off, xo, xc, rfl, hc, hX⟩ := (SsA.kept HA.out hK.out) k x hx
      have HX : Hid (tss[k]? = some x) := hx
      have hC := toStringS_ok wr xo xc x hX (HI.out x (List.mem_of_getElem? hx))
      clear hx hX
      go_wp2_with (go_at_call 10; refine hC.mono ?_; rintro e wx ⟨rfl, hvx, hkx⟩; obtain ⟨cs, hcs, hcz, _⟩ := id (hR.out.on hkx); have z0 : wx.cell? ⟨w.heap.size, k, none⟩ = some (cs[k]'(by omega)) := (by have hh : wx.heap[w.heap.size]? = some _ := hcs; simp [World.cell?, hh, show k < cs.size by omega]); have y0 := hcs.frozen k; clear hcs)
      have hlt2 : w.heap.size < wr.heap.size := by obtain ⟨_, hh, _⟩ := hR.out; exact hh.lt
      have hN := RowTT.next (hR.out.on hkx) HX.out hlt2 hvx
      go_roundw
      case rel => exact ⟨k + 1, by go_num, by omega, hN, (hK.out.trans hkx).set (by simp) _⟩
      case measure => simp [intOf]; omega
    · have q1 : ¬ (k : Int) < (tss.length : Int) := by omega
      have HR : Hid (SsA wr (some ⟨w.heap.size, 0, none⟩) tss) := RowTT.done (by have := hR.out; rwa [show k = tss.length by omega] at this)
      go_wp2_with fail
      go_ret
      exact ⟨rfl, HR.out, hK.out⟩
set_option maxHeartbeats 8000000 in
set_option maxRecDepth 100000 in
theorem eqStrS_ok (w : World) (ao bo : Option Addr) (ca cb : Nat) (ts : List ByteArray) (hA : StA w ao ts) (hB : StA w bo ts) (hl : ts.length ≤ 1048576) :
    Calls Try.prog 11 #[.slice ao ts.length ca, .slice bo ts.length cb] w fun e w' => e = .returned (.bool true) ∧ Kept w w' := by
  have HA : Hid _ := hA
  have HB : Hid _ := hB
  clear hA hB
  go_enter Try.func11, Try.ntmps11
  go_wp2_with fail
  go_loopw [5] (fun i wr => ∃ k : Nat, i = .int .i64 k ∧ k ≤ ts.length ∧ Kept w wr) (fun i _ => ts.length - (intOf i).toNat)
  case atStart => exact ⟨0, rfl, Nat.zero_le _, Below.refl _ _⟩
  case round =>
    obtain ⟨k, rfl, hk, hK⟩ := hrel
    have HK : Hid _ := hK
    by_cases hlt : k < ts.length
    · obtain ⟨t, ht⟩ : ∃ t, ts[k]? = some t := ⟨_, List.getElem?_eq_getElem hlt⟩
      obtain ⟨b, off, rfl, hc⟩ := (StA.kept HA.out hK) k t ht
      obtain ⟨b', off', rfl, hc'⟩ := (StA.kept HB.out hK) k t ht
      have q1 : (k : Int) < (ts.length : Int) := by omega
      have q0 : (0 : Int) ≤ (k : Int) := by omega
      have n6 : (t != t) = false := by simp [bne, beq_toListBytes]
      clear ht hK
      go_wp2_with fail
      go_region
      all_goals (
        go_wp2_with fail
        go_roundw
        case rel => exact ⟨k + 1, by go_num, by omega, Below.drew HK.out⟩
        case measure => simp [intOf]; omega)
    · obtain rfl : k = ts.length := by omega
      clear hK
      go_wp2
      go_ret
      exact ⟨rfl, HK.out⟩
set_option maxHeartbeats 8000000 in
set_option maxRecDepth 100000 in
theorem eqStringSS_ok (w : World) (ao bo : Option Addr) (ca cb : Nat) (tss : List (List ByteArray)) (hA : SsA w ao tss) (hB : SsA w bo tss) (hl : tss.length ≤ 1048576) (hi : ∀ ts ∈ tss, ts.length ≤ 1048576) :
    Calls Try.prog 8 #[.slice ao tss.length ca, .slice bo tss.length cb] w fun e w' => e = .returned (.bool true) ∧ Kept w w' := by
  have HA : Hid _ := hA
  have HB : Hid _ := hB
  have HI : Hid _ := hi
  clear hA hB hi
  go_enter Try.func8, Try.ntmps8
  go_wp2_with fail
  go_loopw [5] (fun i wr => ∃ k : Nat, i = .int .i64 k ∧ k ≤ tss.length ∧ Hid (Kept w wr)) (fun i _ => tss.length - (intOf i).toNat)
  case atStart => exact ⟨0, rfl, Nat.zero_le _, Below.refl _ _⟩
  case round =>
    obtain ⟨k, rfl, hk, HK⟩ := hrel
    by_cases hlt : k < tss.length
    · obtain ⟨t, ht⟩ : ∃ t, tss[k]? = some t := ⟨_, List.getElem?_eq_getElem hlt⟩
      have kd : Kept w wr.drew := Below.drew HK.out
      obtain ⟨b, off, xo, xc, rfl, hc, hX⟩ := (SsA.kept HA.out HK.out) k t ht
      obtain ⟨b', off', yo, yc, rfl, hc', hY⟩ := (SsA.kept HB.out HK.out) k t ht
      have hC := eqStrS_ok wr.drew xo yo xc yc t (hX.kept ((Below.refl _ wr).drew)) (hY.kept ((Below.refl _ wr).drew)) (HI.out t (List.mem_of_getElem? ht))
      have q1 : (k : Int) < (tss.length : Int) := by omega
      have q0 : (0 : Int) ≤ (k : Int) := by omega
      have HD : Hid _ := kd
      clear ht hX hY kd
      go_wp2_with fail
      go_region_with (go_at_call 11; refine hC.mono ?_; rintro e wx ⟨rfl, hkx⟩)
      all_goals (
        go_wp2_with fail
        go_roundw
        case rel => exact ⟨k + 1, by go_num, by omega, Kept.trans HD.out hkx⟩
        case measure => simp [intOf]; omega)
    · have q1 : ¬ (k : Int) < (tss.length : Int) := by omega
      go_wp2_with fail
      go_ret
      exact ⟨rfl, HK.out⟩
theorem cellsStrF : Try.prog.cellsOf 9 = 1 := by kernel_rfl
theorem cellsStrsF : Try.prog.cellsOf 30 = 1 := by kernel_rfl
set_option maxRecDepth 100000 in
theorem strs_of {H : Type} {enc : TypeId × Value → H} {W : World} {fuel : Nat} {c : Value} {x : DataW H × List MemPlace} (hf : DataW.trod enc Try.prog W 0 (fun _ => true) true fuel 30 [c] = some x) :
    ∃ ao cap ts, c = .slice ao (List.length ts) cap ∧ FitT ts ∧ StA W ao ts := by
  rcases DataW.trod_slice Try.underlying30 hf with ⟨e3, _⟩ | ⟨a, len, cap, elems, rest, n2, hn2, e3, _, _, hlc, hcm, hel, hcell, _, _⟩
  · simp at e3
    subst e3
    exact ⟨none, 0, [], rfl, ⟨by simp, by simp⟩, fun j t ht => by simp at ht⟩
  · simp at e3
    subst e3
    have key : ∀ i, i < len → ∃ t : ByteArray, W.cell? (a.add i) = some (.string t) ∧ t.size ≤ maxLen := fun i hi => by
      have h4 := hcell i hi
      rw [List.getElem?_eq_getElem (by omega)] at h4
      obtain ⟨cs', hc1, hc2⟩ := Option.bind_eq_some_iff.1 h4
      obtain ⟨s, e1, _, hsl⟩ := DataW.trod_string Try.underlying9 hc2
      subst e1
      rw [cellsStrF] at hc1
      obtain ⟨_, _, hc⟩ := World.cells?_some hc1
      have g0 := hc 0 (by omega)
      simp only [Go.Deep.add_add] at g0
      exact ⟨s, by simpa using g0, hsl⟩
    obtain ⟨f, hf2⟩ := Go.Deep.choose_lt key
    obtain ⟨b, off, spot⟩ := a
    refine ⟨some ⟨b, off, spot⟩, cap, (List.range len).map f, by simp, ⟨by simp; omega, fun t ht => ?_⟩, fun k t e => ?_⟩
    · obtain ⟨k, hk, rfl⟩ := List.mem_map.1 ht
      exact (hf2 k (by simpa using hk)).2
    · have hk : k < len := by
        have := (List.getElem?_eq_some_iff.1 e).1
        simpa using this
      have ht : t = f k := by
        rw [List.getElem?_map, List.getElem?_range hk] at e
        simpa using e.symm
      subst ht
      have g := (hf2 k hk).1
      have hspot : spot = none := by simpa [Addr.add] using World.cell?_spot (hf2 0 (by omega)).1
      subst hspot
      exact ⟨b, off, rfl, by rw [← g]; unfold Addr.add; split <;> simp_all⟩
set_option maxRecDepth 100000 in
theorem open_ss {H : Type} {enc : TypeId × Value → H} {W : World} {base : Nat} {v : Value} {d : DataW H} {p : List MemPlace} (hv : Value.okWide Try.prog W .any base 22 v) (h : DataW.Trod enc Try.prog W 0 (fun _ => true) true 22 v d p) :
    ∃ (ao : Option Addr) (cap : Nat) (tss : List (List ByteArray)), v = .slice ao tss.length cap ∧ tss.length ≤ maxLen ∧ (∀ ts ∈ tss, FitT ts) ∧ SsA W ao tss := by
  obtain ⟨a, l, c, rfl⟩ := okWide_slice Try.underlying22 hv
  obtain ⟨fuel, hf⟩ := h
  rcases DataW.trod_slice Try.underlying22 hf with ⟨e3, _⟩ | ⟨a', len, cap, elems, rest, n2, hn2, e3, _, _, hlc, hcm, hel, hcell, _, _⟩
  · simp [Value.cells] at e3
    obtain ⟨rfl, rfl, rfl⟩ := e3
    exact ⟨none, 0, [], rfl, by simp, by simp, fun j t ht => by simp at ht⟩
  · simp [Value.cells] at e3
    obtain ⟨rfl, rfl, rfl⟩ := e3
    have key : ∀ i, i < l → ∃ t : List ByteArray, FitT t ∧ ∃ xo xc, W.cell? (a'.add i) = some (.slice xo t.length xc) ∧ StA W xo t := fun i hi => by
      have h4 := hcell i hi
      rw [List.getElem?_eq_getElem (by omega)] at h4
      obtain ⟨cs', hc1, hc2⟩ := Option.bind_eq_some_iff.1 h4
      rw [cellsStrsF] at hc1
      obtain ⟨hl1, _, hc⟩ := World.cells?_some hc1
      obtain ⟨c0, rfl⟩ : ∃ c0, cs' = [c0] := by
        match cs', hl1 with
        | [c0], _ => exact ⟨c0, rfl⟩
      obtain ⟨xo, xc, ts, rfl, hF, hS⟩ := strs_of hc2
      have g0 := hc 0 (by omega)
      simp only [Go.Deep.add_add] at g0
      exact ⟨ts, hF, xo, xc, by simpa using g0, hS⟩
    obtain ⟨f, hf2⟩ := Go.Deep.choose_lt key
    obtain ⟨b, off, spot⟩ := a'
    refine ⟨some ⟨b, off, spot⟩, c, (List.range l).map f, by simp, by simp; omega, fun t ht => ?_, fun k t e => ?_⟩
    · obtain ⟨k, hk, rfl⟩ := List.mem_map.1 ht
      exact (hf2 k (by simpa using hk)).1
    · have hk : k < l := by
        have := (List.getElem?_eq_some_iff.1 e).1
        simpa using this
      have ht : t = f k := by
        rw [List.getElem?_map, List.getElem?_range hk] at e
        simpa using e.symm
      subst ht
      obtain ⟨_, xo, xc, g, hS⟩ := hf2 k hk
      have hspot : spot = none := by
        obtain ⟨_, _, _, g', _⟩ := hf2 0 (by omega)
        simpa [Addr.add] using World.cell?_spot g'
      subst hspot
      exact ⟨b, off, xo, xc, rfl, by rw [← g]; unfold Addr.add; split <;> simp_all, hS⟩
end Go.Proofs.Ytcecoicblejifaa
