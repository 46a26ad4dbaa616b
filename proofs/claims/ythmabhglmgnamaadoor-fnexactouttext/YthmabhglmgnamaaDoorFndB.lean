/-
  The contracts of what the laws do with rows of texts and rows of such rows: how many, a copy, whether two are the same; and how such an argument is read.
-/
import Derived.Test.YthmabhglmgnamaaDoorFndA
import Derived.BigQuiet
import Derived.Deep.RegionWith
import Derived.ProofKit
import Derived.OpenShut
import Derived.Carry
import Derived.Deep.Slices
import Derived.ChangeMaps5
namespace Go.Proofs.YthmabhglmgnamaaDoor
open Go.ChangeShapes Go.WideShapes Go.ChangeAt Go.RowKit
attribute [local go_sem] Plain.and7

/-- How many texts and letters. -/
def sumT : List ByteArray → Nat
  | [] => 0
  | t :: ts => t.size + sumT ts
def blkT (ts : List ByteArray) : Nat := ts.length + sumT ts
def sumTT : List (List ByteArray) → Nat
  | [] => 0
  | t :: ts => blkT t + sumTT ts
def blkTT (tss : List (List ByteArray)) : Nat := tss.length + sumTT tss
theorem sumT_take {ts : List ByteArray} {k : Nat} {x : ByteArray} (h : ts[k]? = some x) : sumT (ts.take (k + 1)) = sumT (ts.take k) + x.size := by
  induction ts generalizing k with
  | nil => simp at h
  | cons t ts ih =>
    cases k with
    | zero => simp at h; subst h; simp [sumT]
    | succ k => simp at h; simp [sumT, ih h]; omega
theorem sumT_le (ts : List ByteArray) (k : Nat) : sumT (ts.take k) ≤ sumT ts := by
  induction ts generalizing k with
  | nil => simp [sumT]
  | cons t ts ih =>
    cases k with
    | zero => simp [sumT]
    | succ k => simp [sumT, ih k]
theorem sumTT_take {ts : List (List ByteArray)} {k : Nat} {x : List ByteArray} (h : ts[k]? = some x) : sumTT (ts.take (k + 1)) = sumTT (ts.take k) + blkT x := by
  induction ts generalizing k with
  | nil => simp at h
  | cons t ts ih =>
    cases k with
    | zero => simp at h; subst h; simp [sumTT]
    | succ k => simp at h; simp [sumTT, ih h]; omega
theorem sumTT_le (ts : List (List ByteArray)) (k : Nat) : sumTT (ts.take k) ≤ sumTT ts := by
  induction ts generalizing k with
  | nil => simp [sumTT]
  | cons t ts ih =>
    cases k with
    | zero => simp [sumTT]
    | succ k => simp [sumTT, ih k]
theorem sumTT_mem {ts : List (List ByteArray)} {x : List ByteArray} (h : x ∈ ts) : blkT x ≤ sumTT ts := by
  induction ts with
  | nil => simp at h
  | cons t ts ih =>
    rcases List.mem_cons.1 h with rfl | h
    · simp [sumTT]
    · have := ih h; simp [sumTT]; omega
def leftT (l : Int) (n : Nat) : Int := if (n : Int) ≤ l then l - n else -1
def FitT (ts : List ByteArray) : Prop := ts.length ≤ maxLen ∧ ∀ t ∈ ts, t.size ≤ maxLen
set_option maxHeartbeats 8000000 in
set_option maxRecDepth 100000 in
theorem szStringS_ok (w : World) (ao : Option Addr) (cap : Nat) (ts : List ByteArray) (l : Int) (hA : StA w ao ts) (hF : FitT ts) (h0 : 0 ≤ l) (h1 : l ≤ 1048576) :
    Calls Tryd.prog 39 #[.slice ao ts.length cap, .int .i64 l] w fun e w' => e = .returned (.int .i64 (leftT l (blkT ts))) ∧ w' = w := by
  have HA : Hid _ := hA
  have HF : Hid _ := hF
  have hml' : ts.length ≤ 9223372036854775807 := by have := hF.1; unfold maxLen at this; omega
  clear hA hF
  by_cases hneg : l - (ts.length : Int) < 0
  · have HL : Hid (leftT l (blkT ts) = -1) := by rw [Hid, leftT, if_neg (by unfold blkT; omega)]
    go_enter Tryd.func39, Tryd.ntmps39
    go_wp2_with fail
    go_ret
    exact ⟨by rw [HL.out]; rfl, rfl⟩
  · go_enter Tryd.func39, Tryd.ntmps39
    go_wp2_with fail
    go_loopw [1, 5] (fun lv iv wr => ∃ (k : Nat), iv = .int .i64 k ∧ k ≤ ts.length ∧ ∃ r, lv = .int .i64 r ∧ Hid (r = l - (ts.length : Int) - ((sumT (ts.take k) : Nat) : Int) ∧ (ts.length : Int) + ((sumT (ts.take k) : Nat) : Int) ≤ l) ∧ HidW wr w) (fun _ i _ => ts.length - (intOf i).toNat)
    case atStart => exact ⟨0, rfl, Nat.zero_le _, _, rfl, ⟨by simp [sumT], by simp [sumT]; omega⟩, ⟨rfl⟩⟩
    case round =>
      obtain ⟨k, rfl, hk, r0, rfl, hre, HW⟩ := hrel
      obtain ⟨hr00, hle⟩ := hre.out
      obtain rfl := HW.out
      by_cases hlt : k < ts.length
      · obtain ⟨x, hx⟩ : ∃ x, ts[k]? = some x := ⟨ts[k], List.getElem?_eq_getElem hlt⟩
        have q1 : (k : Int) < (ts.length : Int) := by omega
        have q2 : (k : Int) + 1 ≤ 9223372036854775807 := by omega
        have hst := sumT_take hx
        have hsl := sumT_le ts (k + 1)
        have hxs : x.size ≤ 9223372036854775807 := by have := HF.out.2 x (List.mem_of_getElem? hx); unfold maxLen at this; omega
        obtain ⟨b, off, rfl, hc⟩ := HA.out k x hx
        have hr1 : 0 ≤ r0 := by omega
        have hr2 : r0 ≤ 1048576 := by omega
        by_cases hf : (x.size : Int) ≤ r0
        · have HN : Hid (r0 - (x.size : Int) = l - (ts.length : Int) - ((sumT (ts.take (k + 1)) : Nat) : Int) ∧ (ts.length : Int) + ((sumT (ts.take (k + 1)) : Nat) : Int) ≤ l) := ⟨by omega, by omega⟩
          have hd : decide (r0 - (x.size : Int) < 0) = false := decide_eq_false (by omega)
          clear hst hsl hle hr00 hre HF HA hneg h0 h1 hml' hx
          go_wp2_with fail
          exact ⟨⟨k + 1, by go_num, by omega, _, rfl, HN.out, ⟨rfl⟩⟩, by simp [intOf]; omega⟩
        · have HL : Hid (leftT l (blkT ts) = -1) := by rw [Hid, leftT, if_neg (by unfold blkT; omega)]
          have hd : decide (r0 - (x.size : Int) < 0) = true := decide_eq_true (by omega)
          clear hst hsl hle hr00 hre HF HA hneg h0 h1 hml' hx
          go_wp2_with fail
          go_ret
          exact ⟨by rw [HL.out]; rfl, rfl⟩
      · have q1 : ¬ (k : Int) < (ts.length : Int) := by omega
        have HL : Hid (leftT l (blkT ts) = r0) := by
          have e : k = ts.length := by omega
          rw [e, List.take_length] at hle hr00
          rw [Hid, blkT, leftT, if_pos (by omega)]
          omega
        clear hr00 hle
        go_wp2_with fail
        go_ret
        exact ⟨by rw [HL.out]; rfl, rfl⟩
theorem infoStr : (Tryd.prog.info? 9).map (fun i => (i.zero, i.size, i.bytes)) = some (some (.string ⟨#[]⟩), 1, 16) := by kernel_rfl
/-- The cells of a row whose first k texts are told. -/
def RowT (W : World) (g : Nat) (ts : List ByteArray) (k : Nat) : Prop := ∃ cs, Cells W g 9 cs ∧ cs.size = ts.length ∧ ∀ j t, j < k → ts[j]? = some t → cs[j]? = some (.string t)
theorem RowT.next {W : World} {g : Nat} {ts : List ByteArray} {k : Nat} {x : ByteArray} (h : RowT W g ts k) (hx : ts[k]? = some x) : RowT (W.setCell ⟨g, k, none⟩ (.string x)) g ts (k + 1) := by
  obtain ⟨cs, h1, h2, h3⟩ := h
  have hlt : k < ts.length := (List.getElem?_eq_some_iff.1 hx).1
  refine ⟨_, h1.set k (.string x), by simp [h2], fun j t hj ht => ?_⟩
  by_cases hjk : j = k
  · subst hjk
    rw [hx] at ht
    injection ht with ht
    subst ht
    simp [Array.getElem?_setIfInBounds, h2]
    omega
  · rw [Array.getElem?_setIfInBounds_ne (by omega)]
    exact h3 j t (by omega) ht
theorem RowT.done {W : World} {g : Nat} {ts : List ByteArray} (h : RowT W g ts ts.length) : StA W (some ⟨g, 0, none⟩) ts := by
  obtain ⟨cs, h1, h2, h3⟩ := h
  intro j t ht
  have hh : W.heap[g]? = some _ := h1
  exact ⟨g, 0, rfl, by simp [World.cell?, hh, h3 j t (List.getElem?_eq_some_iff.1 ht).1 ht]⟩
theorem StA.other {W : World} {x g k : Nat} {ts : List ByteArray} {v : Value} (h : StA W (some ⟨x, 0, none⟩) ts) (hx : g ≠ x) : StA (W.setCell ⟨g, k, none⟩ v) (some ⟨x, 0, none⟩) ts := by
  intro j t ht
  obtain ⟨b, off, e, hc⟩ := h j t ht
  refine ⟨b, off, e, ?_⟩
  simp at e
  obtain ⟨rfl, rfl⟩ := e
  rw [← hc]
  have e := Below.heap_setCell W ⟨g, k, none⟩ v x (by simpa using hx.symm)
  simp only [World.cell?, e]
set_option maxHeartbeats 8000000 in
set_option maxRecDepth 100000 in
theorem toStringS_ok (w : World) (ao : Option Addr) (cap : Nat) (ts : List ByteArray) (hA : StA w ao ts) (hl : ts.length ≤ 1048576) :
    Calls Tryd.prog 41 #[.slice ao ts.length cap] w fun e w' => e = .returned (.slice (some ⟨w.heap.size, 0, none⟩) ts.length ts.length) ∧ StA w' (some ⟨w.heap.size, 0, none⟩) ts ∧ Kept w w' := by
  obtain ⟨i0, hi, hz0, hz1, hz2⟩ := info_parts infoStr
  have HA : Hid _ := hA
  clear hA
  go_enter Tryd.func41, Tryd.ntmps41
  go_wp2_with (at_make; refine wpList_make_full _ rfl _ _ 42 rfl w.heap.size 9 i0 (.string ⟨#[]⟩) 1 Tryd.underlying42 hi hz0 hz1 .i64 .i64 _ _ ts.length rfl rfl rfl rfl (by rw [hz2]; omega) (by unfold maxLen; omega) (Nat.le_refl _) ?_; intro w1 hown hgrow)
  have hR : RowT w1 w.heap.size ts 0 := by
    obtain ⟨_, ⟨e, _⟩ | ⟨g', cap', cur, e, hb, hg, h1, h2, h3, h4⟩⟩ := hown
    · cases e
    · simp at e
      obtain ⟨rfl, rfl⟩ := e
      exact ⟨cur, hg, by simpa using h3, fun j t hj => by omega⟩
  have hK : Kept w w1 := (Below.refl _ w).grown hgrow (Nat.le_refl _) (by simp)
  have HR0 : Hid _ := hR
  have HK0 : Hid (Kept w w1) := hK
  clear hown hgrow hR hK
  go_loopw [4] (fun iv wr => ∃ (k : Nat), iv = .int .i64 k ∧ k ≤ ts.length ∧ Hid (RowT wr w.heap.size ts k) ∧ Hid (Kept w wr)) (fun i _ => ts.length - (intOf i).toNat)
  case atStart => exact ⟨0, rfl, Nat.zero_le _, HR0.out, HK0.out⟩
  case round =>
    obtain ⟨k, rfl, hk, hR, hK⟩ := hrel
    clear HR0 HK0
    by_cases hlt : k < ts.length
    · obtain ⟨x, hx⟩ : ∃ x, ts[k]? = some x := ⟨ts[k], List.getElem?_eq_getElem hlt⟩
      have q1 : (k : Int) < (ts.length : Int) := by omega
      obtain ⟨b, off, rfl, hc⟩ := (StA.kept HA.out hK.out) k x hx
      have HX : Hid (ts[k]? = some x) := hx
      obtain ⟨cs, hcs, hcz, _⟩ := id hR.out
      have z0 : wr.cell? ⟨w.heap.size, k, none⟩ = some (cs[k]'(by omega)) := by
        have hh : wr.heap[w.heap.size]? = some _ := hcs
        simp [World.cell?, hh, show k < cs.size by omega]
      have y0 := hcs.frozen k
      clear hx hcs
      go_wp2_with fail
      go_roundw
      case rel => exact ⟨k + 1, by go_num, by omega, RowT.next hR.out HX.out, hK.out.set (by simp) _⟩
      case measure => simp [intOf]; omega
    · have q1 : ¬ (k : Int) < (ts.length : Int) := by omega
      have HR : Hid (StA wr (some ⟨w.heap.size, 0, none⟩) ts) := RowT.done (by have := hR.out; rwa [show k = ts.length by omega] at this)
      go_wp2_with fail
      go_ret
      exact ⟨rfl, HR.out, hK.out⟩
set_option maxHeartbeats 8000000 in
set_option maxRecDepth 100000 in
theorem eqStrS_ok (w : World) (ao bo : Option Addr) (ca cb : Nat) (ts : List ByteArray) (hA : StA w ao ts) (hB : StA w bo ts) (hl : ts.length ≤ 1048576) :
    Calls Tryd.prog 42 #[.slice ao ts.length ca, .slice bo ts.length cb] w fun e w' => e = .returned (.bool true) ∧ Kept w w' := by
  have HA : Hid _ := hA
  have HB : Hid _ := hB
  clear hA hB
  go_enter Tryd.func42, Tryd.ntmps42
  go_wp2_with fail
  go_loopw [5] (fun i wr => ∃ k : Nat, i = .int .i64 k ∧ k ≤ ts.length ∧ Kept w wr) (fun i _ => ts.length - (intOf i).toNat)
  case atStart => exact ⟨0, rfl, Nat.zero_le _, Below.refl _ _⟩
  case round =>
    obtain ⟨k, rfl, hk, hK⟩ := hrel
    have HK : Hid _ := hK
    by_cases hlt : k < ts.length
    · obtain ⟨t, ht⟩ : ∃ t, ts[k]? = some t := ⟨_, List.getElem?_eq_getElem hlt⟩
      obtain ⟨b, off, rfl, hc⟩ := (StA.kept HA.out hK) k t ht
      obtain ⟨b', off', rfl, hc'⟩ := (StA.kept HB.out hK) k t ht
      have q1 : (k : Int) < (ts.length : Int) := by omega
      have q0 : (0 : Int) ≤ (k : Int) := by omega
      have n6 : (t != t) = false := by simp [bne, beq_toListBytes]
      clear ht hK
      go_wp2_with fail
      go_region
      all_goals (
        go_wp2_with fail
        go_roundw
        case rel => exact ⟨k + 1, by go_num, by omega, Below.drew HK.out⟩
        case measure => simp [intOf]; omega)
    · obtain rfl : k = ts.length := by omega
      clear hK
      go_wp2
      go_ret
      exact ⟨rfl, HK.out⟩
theorem cellsStrF : Tryd.prog.cellsOf 9 = 1 := by kernel_rfl
theorem cellsStrsF : Tryd.prog.cellsOf 42 = 1 := by kernel_rfl
set_option maxRecDepth 100000 in
theorem strs_of {H : Type} {enc : TypeId × Value → H} {W : World} {fuel : Nat} {c : Value} {x : DataW H × List MemPlace} (hf : DataW.trod enc Tryd.prog W 0 (fun _ => true) true fuel 42 [c] = some x) :
    ∃ ao cap ts, c = .slice ao (List.length ts) cap ∧ FitT ts ∧ StA W ao ts := by
  rcases DataW.trod_slice Tryd.underlying42 hf with ⟨e3, _⟩ | ⟨a, len, cap, elems, rest, n2, hn2, e3, _, _, hlc, hcm, hel, hcell, _, _⟩
  · simp at e3
    subst e3
    exact ⟨none, 0, [], rfl, ⟨by simp, by simp⟩, fun j t ht => by simp at ht⟩
  · simp at e3
    subst e3
    have key : ∀ i, i < len → ∃ t : ByteArray, W.cell? (a.add i) = some (.string t) ∧ t.size ≤ maxLen := fun i hi => by
      have h4 := hcell i hi
      rw [List.getElem?_eq_getElem (by omega)] at h4
      obtain ⟨cs', hc1, hc2⟩ := Option.bind_eq_some_iff.1 h4
      obtain ⟨s, e1, _, hsl⟩ := DataW.trod_string Tryd.underlying9 hc2
      subst e1
      rw [cellsStrF] at hc1
      obtain ⟨_, _, hc⟩ := World.cells?_some hc1
      have g0 := hc 0 (by omega)
      simp only [Go.Deep.add_add] at g0
      exact ⟨s, by simpa using g0, hsl⟩
    obtain ⟨f, hf2⟩ := Go.Deep.choose_lt key
    obtain ⟨b, off, spot⟩ := a
    refine ⟨some ⟨b, off, spot⟩, cap, (List.range len).map f, by simp, ⟨by simp; omega, fun t ht => ?_⟩, fun k t e => ?_⟩
    · obtain ⟨k, hk, rfl⟩ := List.mem_map.1 ht
      exact (hf2 k (by simpa using hk)).2
    · have hk : k < len := by
        have := (List.getElem?_eq_some_iff.1 e).1
        simpa using this
      have ht : t = f k := by
        rw [List.getElem?_map, List.getElem?_range hk] at e
        simpa using e.symm
      subst ht
      have g := (hf2 k hk).1
      have hspot : spot = none := by simpa [Addr.add] using World.cell?_spot (hf2 0 (by omega)).1
      subst hspot
      exact ⟨b, off, rfl, by rw [← g]; unfold Addr.add; split <;> simp_all⟩
end Go.Proofs.YthmabhglmgnamaaDoor
