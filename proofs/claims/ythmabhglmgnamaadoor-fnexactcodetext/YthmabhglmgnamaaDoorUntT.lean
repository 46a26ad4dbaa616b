/-
  What the laws do with units: a copy; and how such an argument is read (chapter 15).
-/
import Derived.Test.YthmabhglmgnamaaDoorUntP
namespace Go.Proofs.YthmabhglmgnamaaDoor
open Go.ChangeShapes Go.WideShapes Go.ChangeAt Go.RowKit
set_option linter.unusedSimpArgs false
set_option linter.unusedVariables false
theorem Kept.set3 {w W : World} (k : Kept w W) {g i : Nat} (hg : w.heap.size ≤ g) (a b c : Value) : Kept w (((W.setCell ⟨g, i, none⟩ a).setCell ⟨g, i + 1, none⟩ b).setCell ⟨g, i + 2, none⟩ c) := ((k.set hg a).set hg b).set hg c
theorem Cells.at3 {W : World} {B i : Nat} {t : TypeId} {cs : Array Value} (h : Cells W B t cs) (hi : i < cs.size) : W.cell? ⟨B, i, none⟩ = some cs[i] := by
  rw [h.cell, Array.getElem?_eq_getElem hi]
theorem set3_get {cs : Array Value} {n j k : Nat} {a b c : Value} (h : k * 3 + 3 ≤ cs.size) (hj : j ≠ k) (i : Nat) (hi : i < 3) : (((cs.setIfInBounds (k * 3) a).setIfInBounds (k * 3 + 1) b).setIfInBounds (k * 3 + 2) c)[j * 3 + i]? = cs[j * 3 + i]? := by
  rw [Array.getElem?_setIfInBounds_ne (by omega), Array.getElem?_setIfInBounds_ne (by omega), Array.getElem?_setIfInBounds_ne (by omega)]
theorem set3_at {cs : Array Value} {k : Nat} {a b c : Value} (h : k * 3 + 3 ≤ cs.size) : (((cs.setIfInBounds (k * 3) a).setIfInBounds (k * 3 + 1) b).setIfInBounds (k * 3 + 2) c)[k * 3]? = some a ∧ (((cs.setIfInBounds (k * 3) a).setIfInBounds (k * 3 + 1) b).setIfInBounds (k * 3 + 2) c)[k * 3 + 1]? = some b ∧ (((cs.setIfInBounds (k * 3) a).setIfInBounds (k * 3 + 1) b).setIfInBounds (k * 3 + 2) c)[k * 3 + 2]? = some c := by
  refine ⟨?_, ?_, ?_⟩
  · rw [Array.getElem?_setIfInBounds_ne (by omega), Array.getElem?_setIfInBounds_ne (by omega), Array.getElem?_setIfInBounds_self_of_lt (by omega)]
  · rw [Array.getElem?_setIfInBounds_ne (by omega), Array.getElem?_setIfInBounds_self_of_lt (by simp; omega)]
  · rw [Array.getElem?_setIfInBounds_self_of_lt (by simp; omega)]
theorem infoStp : (Tryd.prog.info? 55).map (fun i => (i.zero, i.size, i.bytes)) = some (some (.agg #[.int .i64 0, .int .i64 0, .int .i64 0]), 3, 24) := by kernel_rfl
/-- The cells of a row whose first k steps are told. -/
def RowS (W : World) (g : Nat) (ss : List Stp) (k : Nat) : Prop := ∃ cs, Cells W g 55 cs ∧ cs.size = ss.length * 3 ∧ ∀ (j : Nat) (s : Stp), j < k → ss[j]? = some s → cs[j * 3]? = some (.int .i64 s.1) ∧ cs[j * 3 + 1]? = some (.int .i64 s.2.1) ∧ cs[j * 3 + 2]? = some (.int .i64 s.2.2)
theorem RowS.on {W W' : World} {g : Nat} {ss : List Stp} {k : Nat} (h : RowS W g ss k) (hk : Kept W W') : RowS W' g ss k := by
  obtain ⟨cs, h1, h2, h3⟩ := h
  exact ⟨cs, h1.kept hk, h2, h3⟩
theorem RowS.next {W : World} {g : Nat} {ss : List Stp} {k : Nat} {x : Stp} (h : RowS W g ss k) (hx : ss[k]? = some x) :
    RowS (((W.setCell ⟨g, k * 3, none⟩ (.int .i64 x.1)).setCell ⟨g, k * 3 + 1, none⟩ (.int .i64 x.2.1)).setCell ⟨g, k * 3 + 2, none⟩ (.int .i64 x.2.2)) g ss (k + 1) := by
  obtain ⟨cs, h1, h2, h3⟩ := h
  have hlt : k < ss.length := (List.getElem?_eq_some_iff.1 hx).1
  have hz : k * 3 + 3 ≤ cs.size := by omega
  refine ⟨_, ((h1.set (k * 3) _).set (k * 3 + 1) _).set (k * 3 + 2) _, by simp [h2], fun j s hj hs => ?_⟩
  by_cases hjk : j = k
  · subst hjk
    rw [hx] at hs
    injection hs with hs
    subst hs
    exact set3_at hz
  · obtain ⟨e0, e1, e2⟩ := h3 j s (by omega) hs
    have f0 := set3_get (n := 0) (a := .int .i64 x.1) (b := .int .i64 x.2.1) (c := .int .i64 x.2.2) hz hjk 0 (by omega)
    have f1 := set3_get (n := 0) (a := .int .i64 x.1) (b := .int .i64 x.2.1) (c := .int .i64 x.2.2) hz hjk 1 (by omega)
    have f2 := set3_get (n := 0) (a := .int .i64 x.1) (b := .int .i64 x.2.1) (c := .int .i64 x.2.2) hz hjk 2 (by omega)
    exact ⟨f0.trans e0, f1.trans e1, f2.trans e2⟩
theorem RowS.done {W : World} {g : Nat} {ss : List Stp} (h : RowS W g ss ss.length) : StpsA W (some ⟨g, 0, none⟩) ss := by
  obtain ⟨cs, h1, h2, h3⟩ := h
  intro j s hs
  obtain ⟨e0, e1, e2⟩ := h3 j s (List.getElem?_eq_some_iff.1 hs).1 hs
  refine ⟨g, 0, rfl, ?_, ?_, ?_⟩
  · rw [Nat.zero_add, h1.cell]; exact e0
  · rw [Nat.zero_add, h1.cell]; exact e1
  · rw [Nat.zero_add, h1.cell]; exact e2
set_option maxHeartbeats 8000000 in
set_option maxRecDepth 100000 in
theorem toStepS_ok (w : World) (ao : Option Addr) (cap : Nat) (ss : List Stp) (hA : StpsA w ao ss) (hl : ss.length ≤ 1048576) :
    Calls Tryd.prog 24 #[.slice ao ss.length cap] w fun e w' => e = .returned (.slice (some ⟨w.heap.size, 0, none⟩) ss.length ss.length) ∧ StpsA w' (some ⟨w.heap.size, 0, none⟩) ss ∧ Kept w w' := by
  obtain ⟨i0, hi, hz0, hz1, hz2⟩ := info_parts infoStp
  have HA : Hid _ := hA
  clear hA
  go_enter Tryd.func24, Tryd.ntmps24
  go_wp2_with (at_make; refine wpList_make_full _ rfl _ _ 27 rfl w.heap.size 55 i0 (.agg #[.int .i64 0, .int .i64 0, .int .i64 0]) 3 Tryd.underlying27 hi hz0 hz1 .i64 .i64 _ _ ss.length rfl rfl rfl rfl (by rw [hz2]; omega) (by unfold maxLen; omega) (Nat.le_refl _) ?_; intro w1 hown hgrow)
  have hR : RowS w1 w.heap.size ss 0 := by
    obtain ⟨_, ⟨e, _⟩ | ⟨g', cap', cur, e, hb, hg, h1, h2, h3, h4⟩⟩ := hown
    · cases e
    · simp at e
      obtain ⟨rfl, rfl⟩ := e
      exact ⟨cur, hg, h3, fun j t hj => by omega⟩
  have hK : Kept w w1 := (Below.refl _ w).grown hgrow (Nat.le_refl _) (by simp)
  have HR0 : Hid _ := hR
  have HK0 : Hid (Kept w w1) := hK
  clear hown hgrow hR hK
  go_loopw [4] (fun iv wr => ∃ (k : Nat), iv = .int .i64 k ∧ k ≤ ss.length ∧ Hid (RowS wr w.heap.size ss k) ∧ Hid (Kept w wr)) (fun i _ => ss.length - (intOf i).toNat)
  case atStart => exact ⟨0, rfl, Nat.zero_le _, HR0.out, HK0.out⟩
  case round =>
    obtain ⟨k, rfl, hk, hR, hK⟩ := hrel
    clear HR0 HK0
    by_cases hlt : k < ss.length
    · obtain ⟨x, hx⟩ : ∃ x, ss[k]? = some x := ⟨ss[k], List.getElem?_eq_getElem hlt⟩
      have q1 : (k : Int) < (ss.length : Int) := by omega
      obtain ⟨b, off, rfl, g0, g1, g2⟩ := (StpsA.kept HA.out hK.out) k x hx
      have HX : Hid (ss[k]? = some x) := hx
      obtain ⟨o, a, c⟩ := x
      have hC := toStep_ok wr o a c
      clear hx
      go_wp2_with (go_at_call 44; refine hC.mono ?_; rintro e wx ⟨rfl, hkx⟩; obtain ⟨cs, hcs, hcz, _⟩ := id (RowS.on hR.out hkx); have z0 := hcs.at3 (i := k * 3) (by omega); have z1 := hcs.at3 (i := k * 3 + 1) (by omega); have z2 := hcs.at3 (i := k * 3 + 2) (by omega); have y0 := hcs.frozen (k * 3); have y1 := hcs.frozen (k * 3 + 1); have y2 := hcs.frozen (k * 3 + 2))
      have hN := RowS.next (RowS.on hR.out hkx) HX.out
      go_roundw
      case rel => exact ⟨k + 1, by go_num, by omega, hN, (hK.out.trans hkx).set3 (by simp) _ _ _⟩
      case measure => simp [intOf]; omega
    · have q1 : ¬ (k : Int) < (ss.length : Int) := by omega
      have HR : Hid (StpsA wr (some ⟨w.heap.size, 0, none⟩) ss) := RowS.done (by have := hR.out; rwa [show k = ss.length by omega] at this)
      go_wp2_with fail
      go_ret
      exact ⟨rfl, HR.out, hK.out⟩
set_option maxHeartbeats 8000000 in
set_option maxRecDepth 100000 in
theorem toCode_ok (w : World) (x y : Int) (ao : Option Addr) (cap : Nat) (ss : List Stp) (hA : StpsA w ao ss) (hl : ss.length ≤ 1048576) :
    Calls Tryd.prog 8 #[.agg #[.int .i64 x, .int .i64 y, .slice ao ss.length cap]] w fun e w' => ∃ g, e = .returned (.agg #[.int .i64 x, .int .i64 y, .slice (some ⟨g, 0, none⟩) ss.length ss.length]) ∧ w.heap.size ≤ g ∧ StpsA w' (some ⟨g, 0, none⟩) ss ∧ Kept w w' := by
  have k3 : Kept w (((w.alloc (.cells #[.int .i64 x, .int .i64 y, .slice ao ss.length cap] 24)).alloc (.cells #[.int .i64 0, .int .i64 0, .slice none 0 0] 29)).alloc (.cells #[.int .i64 x, .int .i64 y, .slice none 0 0] 29)) := ((Kept.alloc (Below.refl _ _) _).alloc _).alloc _
  have y1 := (Cells.new (w.alloc (.cells #[.int .i64 x, .int .i64 y, .slice ao ss.length cap] 24)) 29 #[.int .i64 0, .int .i64 0, .slice none 0 0]).alloc (.cells #[.int .i64 x, .int .i64 y, .slice none 0 0] 29)
  have y2 := Cells.new ((w.alloc (.cells #[.int .i64 x, .int .i64 y, .slice ao ss.length cap] 24)).alloc (.cells #[.int .i64 0, .int .i64 0, .slice none 0 0] 29)) 29 #[.int .i64 x, .int .i64 y, .slice none 0 0]
  have hs3 : (((w.alloc (.cells #[.int .i64 x, .int .i64 y, .slice ao ss.length cap] 24)).alloc (.cells #[.int .i64 0, .int .i64 0, .slice none 0 0] 29)).alloc (.cells #[.int .i64 x, .int .i64 y, .slice none 0 0] 29)).heap.size = w.heap.size + 3 := by simp
  simp only [World.size_alloc] at y1 y2
  have hC := toStepS_ok _ ao cap ss (hA.kept k3) hl
  rw [hs3] at hC
  clear hA hl
  go_enter Tryd.func8, Tryd.ntmps8
  go_wp2_with fail
  refine hC.mono ?_
  rintro e w1 ⟨rfl, hN, hk1⟩
  have x1 := y1.kept hk1
  have x2 := y2.kept hk1
  have c0 := x2.cell 0; have c1 := x2.cell 1; have c2 := x2.cell 2; have f0 := x2.frozen 0; have f1 := x2.frozen 1; have f2 := x2.frozen 2; have l2 := x2.lt
  have d0 := x1.cell 0; have d1 := x1.cell 1; have d2 := x1.cell 2; have g0 := x1.frozen 0; have g1 := x1.frozen 1; have g2 := x1.frozen 2; have l1 := x1.lt
  have HN : Hid _ := hN
  clear hC y1 y2 hN
  go_wp2_with fail
  have z := (((x1.other (p := ⟨w.heap.size + 1 + 1, 2, none⟩) (by simp) (.slice (some ⟨w.heap.size + 3, 0, none⟩) ss.length ss.length)).set 0 (.int .i64 x)).set 1 (.int .i64 y)).set 2 (.slice (some ⟨w.heap.size + 3, 0, none⟩) ss.length ss.length)
  have z0 := z.cell 0
  have z1 := z.cell 1
  have z2 := z.cell 2
  refine bodyPost_ret (v := .agg #[.int .i64 x, .int .i64 y, .slice (some ⟨w.heap.size + 3, 0, none⟩) ss.length ss.length]) (by simp [results, Tryd.results8, go_sem, z0, z1, z2]) rfl ⟨_, rfl, by omega, StpsA.other (StpsA.other (StpsA.other (StpsA.other HN.out (by omega)) (by omega)) (by omega)) (by omega), ((((k3.trans hk1).set (by simp; omega) _).set (by simp) _).set (by simp) _).set (by simp) _⟩
end Go.Proofs.YthmabhglmgnamaaDoor
