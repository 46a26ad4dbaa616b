/-
  What the laws do with machines: copies of a unit and of frames, told as one's own (chapter 17).
-/
import Derived.Test.YtgempjjnfpmndaaMchP
import Derived.Test.YtgempjjnfpmndaaUntU
namespace Go.Proofs.Ytgempjjnfpmndaa
open Go.ChangeShapes Go.WideShapes Go.ChangeAt Go.RowKit
set_option linter.unusedSimpArgs false
set_option linter.unusedVariables false
set_option maxHeartbeats 8000000 in
set_option maxRecDepth 100000 in
theorem toUnit_own (w : World) (ca ta : Option Addr) (cc tc : Nat) (cs : List Cod) (ts : List ByteArray) (hA : CodsA w ca cs) (hB : StA w ta ts) (hl : cs.length ≤ 1048576) (hI : ∀ c ∈ cs, c.ss.length ≤ 1048576) (ht : ts.length ≤ 1048576) :
    Calls Try.prog 19 #[.agg #[.slice ca cs.length cc, .slice ta ts.length tc]] w fun e w' => ∃ g h, e = .returned (.agg #[.slice (some ⟨g, 0, none⟩) cs.length cs.length, .slice (some ⟨h, 0, none⟩) ts.length ts.length]) ∧ (w.heap.size ≤ g ∧ w.heap.size ≤ h) ∧ CodsO w' g cs ∧ StA w' (some ⟨h, 0, none⟩) ts ∧ Kept w w' := by
  have k3 : Kept w (((w.alloc (.cells #[.slice ca cs.length cc, .slice ta ts.length tc] 25)).alloc (.cells #[.slice none 0 0, .slice none 0 0] 40)).alloc (.cells #[.slice none 0 0, .slice none 0 0] 40)) := ((Kept.alloc (Below.refl _ _) _).alloc _).alloc _
  have y0 := ((Cells.new w 25 #[.slice ca cs.length cc, .slice ta ts.length tc]).alloc (.cells #[.slice none 0 0, .slice none 0 0] 40)).alloc (.cells #[.slice none 0 0, .slice none 0 0] 40)
  have y1 := (Cells.new (w.alloc (.cells #[.slice ca cs.length cc, .slice ta ts.length tc] 25)) 40 #[.slice none 0 0, .slice none 0 0]).alloc (.cells #[.slice none 0 0, .slice none 0 0] 40)
  have y2 := Cells.new ((w.alloc (.cells #[.slice ca cs.length cc, .slice ta ts.length tc] 25)).alloc (.cells #[.slice none 0 0, .slice none 0 0] 40)) 40 #[.slice none 0 0, .slice none 0 0]
  have hs3 : (((w.alloc (.cells #[.slice ca cs.length cc, .slice ta ts.length tc] 25)).alloc (.cells #[.slice none 0 0, .slice none 0 0] 40)).alloc (.cells #[.slice none 0 0, .slice none 0 0] 40)).heap.size = w.heap.size + 3 := by simp
  simp only [World.size_alloc] at y0 y1 y2
  have hC := toCodeS_ok _ ca cc cs (hA.kept k3) hl hI
  rw [hs3] at hC
  have HB : Hid (StA w ta ts) := hB
  have HT : Hid (ts.length ≤ 1048576) := ht
  have HK3 : Hid _ := k3
  clear hA hl hI hB ht
  go_enter Try.func19, Try.ntmps19
  go_wp2_with fail
  refine hC.mono ?_
  rintro e w1 ⟨rfl, hN, hk1⟩
  have x0 := y0.kept hk1
  have x1 := y1.kept hk1
  have x2 := y2.kept hk1
  have c0 := x2.cell 0; have f0 := x2.frozen 0; have l2 := x2.lt
  have hsz1 : w.heap.size + 3 ≤ w1.heap.size := by have := hk1.size; rw [hs3] at this; exact this
  have v0 := x0.other (p := ⟨w.heap.size + 1 + 1, 0, none⟩) (by simp; omega) (.slice (some ⟨w.heap.size + 3, 0, none⟩) cs.length cs.length)
  have v1 := x1.other (p := ⟨w.heap.size + 1 + 1, 0, none⟩) (by simp) (.slice (some ⟨w.heap.size + 3, 0, none⟩) cs.length cs.length)
  have v2 := x2.set 0 (.slice (some ⟨w.heap.size + 3, 0, none⟩) cs.length cs.length)
  have hN1 := hN.other (i := w.heap.size + 1 + 1) (k := 0) (v := .slice (some ⟨w.heap.size + 3, 0, none⟩) cs.length cs.length) (by omega)
  have kW : Kept w (w1.setCell ⟨w.heap.size + 1 + 1, 0, none⟩ (.slice (some ⟨w.heap.size + 3, 0, none⟩) cs.length cs.length)) := (Kept.trans HK3.out hk1).set (by simp; omega) _
  have hszW : (w1.setCell ⟨w.heap.size + 1 + 1, 0, none⟩ (.slice (some ⟨w.heap.size + 3, 0, none⟩) cs.length cs.length)).heap.size = w1.heap.size := by simp
  have HsW : Hid (w.heap.size + 3 ≤ w1.heap.size) := hsz1
  have a0 := v0.cell 0; have a1 := v0.cell 1
  have HN1 : Hid _ := hN1
  have hD := toStringS_ok (w1.setCell ⟨w.heap.size + 1 + 1, 0, none⟩ (.slice (some ⟨w.heap.size + 3, 0, none⟩) cs.length cs.length)) ta tc ts (StA.kept HB.out kW) HT.out
  rw [hszW] at hD
  clear hC y0 y1 y2 hN x0 x1 hszW hN1 hsz1
  go_wp2_with (go_at_call 24; refine hD.mono ?_; rintro e w2 ⟨rfl, hS, hk2⟩; have m2 := v2.kept hk2; have m1 := v1.kept hk2; have e0 := m2.cell 0; have e1 := m2.cell 1; have r0 := m2.frozen 0; have r1 := m2.frozen 1; have e2 := m1.cell 0; have e3 := m1.cell 1; have r2 := m1.frozen 0; have r3 := m1.frozen 1)
  have z := (((m1.other (p := ⟨w.heap.size + 1 + 1, 1, none⟩) (by simp) (.slice (some ⟨w1.heap.size, 0, none⟩) ts.length ts.length)).set 0 (.slice (some ⟨w.heap.size + 3, 0, none⟩) cs.length cs.length))).set 1 (.slice (some ⟨w1.heap.size, 0, none⟩) ts.length ts.length)
  have z0 := z.cell 0
  have z1 := z.cell 1
  have hQ := CodsO.kept HN1.out hk2
  have hs1 := HsW.out
  have hR := ((hQ.other (i := w.heap.size + 1 + 1) (k := 1) (v := .slice (some ⟨w1.heap.size, 0, none⟩) ts.length ts.length) (by omega)).other (i := w.heap.size + 1) (k := 0) (v := .slice (some ⟨w.heap.size + 3, 0, none⟩) cs.length cs.length) (by omega)).other (i := w.heap.size + 1) (k := 1) (v := .slice (some ⟨w1.heap.size, 0, none⟩) ts.length ts.length) (by omega)
  refine bodyPost_ret (v := .agg #[.slice (some ⟨w.heap.size + 3, 0, none⟩) cs.length cs.length, .slice (some ⟨w1.heap.size, 0, none⟩) ts.length ts.length]) (by simp [results, Try.results19, go_sem, z0, z1]) rfl ⟨_, _, rfl, ⟨by omega, by omega⟩, hR, StA.other (StA.other (StA.other hS (by omega)) (by omega)) (by omega), (((Kept.trans kW hk2).set (by simp; omega) _).set (by simp) _).set (by simp) _⟩
set_option maxHeartbeats 8000000 in
set_option maxRecDepth 100000 in
theorem toFrame_ok (w : World) (o a b : Int) :
    Calls Try.prog 41 #[.agg #[.int .i64 o, .int .i64 a, .int .i64 b]] w fun e w' => e = .returned (.agg #[.int .i64 o, .int .i64 a, .int .i64 b]) ∧ Kept w w' := by
  go_enter Try.func41, Try.ntmps41
  go_wp2_with fail
  refine bodyPost_ret (v := .agg #[.int .i64 o, .int .i64 a, .int .i64 b]) (by simp [results, Try.results41, go_sem]) rfl ⟨rfl, ?_⟩
  exact ((Kept.alloc (Below.refl _ _) _).alloc _).alloc _
theorem infoFrm : (Try.prog.info? 77).map (fun i => (i.zero, i.size, i.bytes)) = some (some (.agg #[.int .i64 0, .int .i64 0, .int .i64 0]), 3, 24) := by kernel_rfl
/-- The cells of a row whose first k steps are told. -/
def RowF (W : World) (g : Nat) (ss : List Stp) (k : Nat) : Prop := ∃ cs, Cells W g 77 cs ∧ cs.size = ss.length * 3 ∧ ∀ (j : Nat) (s : Stp), j < k → ss[j]? = some s → cs[j * 3]? = some (.int .i64 s.1) ∧ cs[j * 3 + 1]? = some (.int .i64 s.2.1) ∧ cs[j * 3 + 2]? = some (.int .i64 s.2.2)
theorem RowF.on {W W' : World} {g : Nat} {ss : List Stp} {k : Nat} (h : RowF W g ss k) (hk : Kept W W') : RowF W' g ss k := by
  obtain ⟨cs, h1, h2, h3⟩ := h
  exact ⟨cs, h1.kept hk, h2, h3⟩
theorem RowF.next {W : World} {g : Nat} {ss : List Stp} {k : Nat} {x : Stp} (h : RowF W g ss k) (hx : ss[k]? = some x) :
    RowF (((W.setCell ⟨g, k * 3, none⟩ (.int .i64 x.1)).setCell ⟨g, k * 3 + 1, none⟩ (.int .i64 x.2.1)).setCell ⟨g, k * 3 + 2, none⟩ (.int .i64 x.2.2)) g ss (k + 1) := by
  obtain ⟨cs, h1, h2, h3⟩ := h
  have hlt : k < ss.length := (List.getElem?_eq_some_iff.1 hx).1
  have hz : k * 3 + 3 ≤ cs.size := by omega
  refine ⟨_, ((h1.set (k * 3) _).set (k * 3 + 1) _).set (k * 3 + 2) _, by simp [h2], fun j s hj hs => ?_⟩
  by_cases hjk : j = k
  · subst hjk
    rw [hx] at hs
    injection hs with hs
    subst hs
    exact set3_at hz
  · obtain ⟨e0, e1, e2⟩ := h3 j s (by omega) hs
    have f0 := set3_get (n := 0) (a := .int .i64 x.1) (b := .int .i64 x.2.1) (c := .int .i64 x.2.2) hz hjk 0 (by omega)
    have f1 := set3_get (n := 0) (a := .int .i64 x.1) (b := .int .i64 x.2.1) (c := .int .i64 x.2.2) hz hjk 1 (by omega)
    have f2 := set3_get (n := 0) (a := .int .i64 x.1) (b := .int .i64 x.2.1) (c := .int .i64 x.2.2) hz hjk 2 (by omega)
    exact ⟨f0.trans e0, f1.trans e1, f2.trans e2⟩
theorem RowF.done {W : World} {g : Nat} {ss : List Stp} (h : RowF W g ss ss.length) : StpsA W (some ⟨g, 0, none⟩) ss := by
  obtain ⟨cs, h1, h2, h3⟩ := h
  intro j s hs
  obtain ⟨e0, e1, e2⟩ := h3 j s (List.getElem?_eq_some_iff.1 hs).1 hs
  refine ⟨g, 0, rfl, ?_, ?_, ?_⟩
  · rw [Nat.zero_add, h1.cell]; exact e0
  · rw [Nat.zero_add, h1.cell]; exact e1
  · rw [Nat.zero_add, h1.cell]; exact e2
set_option maxHeartbeats 8000000 in
set_option maxRecDepth 100000 in
theorem toFrameS_ok (w : World) (ao : Option Addr) (cap : Nat) (ss : List Stp) (hA : StpsA w ao ss) (hl : ss.length ≤ 1048576) :
    Calls Try.prog 22 #[.slice ao ss.length cap] w fun e w' => e = .returned (.slice (some ⟨w.heap.size, 0, none⟩) ss.length ss.length) ∧ StpsA w' (some ⟨w.heap.size, 0, none⟩) ss ∧ Kept w w' := by
  obtain ⟨i0, hi, hz0, hz1, hz2⟩ := info_parts infoFrm
  have HA : Hid _ := hA
  clear hA
  go_enter Try.func22, Try.ntmps22
  go_wp2_with (at_make; refine wpList_make_full _ rfl _ _ 43 rfl w.heap.size 77 i0 (.agg #[.int .i64 0, .int .i64 0, .int .i64 0]) 3 Try.underlying43 hi hz0 hz1 .i64 .i64 _ _ ss.length rfl rfl rfl rfl (by rw [hz2]; omega) (by unfold maxLen; omega) (Nat.le_refl _) ?_; intro w1 hown hgrow)
  have hR : RowF w1 w.heap.size ss 0 := by
    obtain ⟨_, ⟨e, _⟩ | ⟨g', cap', cur, e, hb, hg, h1, h2, h3, h4⟩⟩ := hown
    · cases e
    · simp at e
      obtain ⟨rfl, rfl⟩ := e
      exact ⟨cur, hg, h3, fun j t hj => by omega⟩
  have hK : Kept w w1 := (Below.refl _ w).grown hgrow (Nat.le_refl _) (by simp)
  have HR0 : Hid _ := hR
  have HK0 : Hid (Kept w w1) := hK
  clear hown hgrow hR hK
  go_loopw [4] (fun iv wr => ∃ (k : Nat), iv = .int .i64 k ∧ k ≤ ss.length ∧ Hid (RowF wr w.heap.size ss k) ∧ Hid (Kept w wr)) (fun i _ => ss.length - (intOf i).toNat)
  case atStart => exact ⟨0, rfl, Nat.zero_le _, HR0.out, HK0.out⟩
  case round =>
    obtain ⟨k, rfl, hk, hR, hK⟩ := hrel
    clear HR0 HK0
    by_cases hlt : k < ss.length
    · obtain ⟨x, hx⟩ : ∃ x, ss[k]? = some x := ⟨ss[k], List.getElem?_eq_getElem hlt⟩
      have q1 : (k : Int) < (ss.length : Int) := by omega
      obtain ⟨b, off, rfl, g0, g1, g2⟩ := (StpsA.kept HA.out hK.out) k x hx
      have HX : Hid (ss[k]? = some x) := hx
      obtain ⟨o, a, c⟩ := x
      have hC := toFrame_ok wr o a c
      clear hx
      go_wp2_with (go_at_call 41; refine hC.mono ?_; rintro e wx ⟨rfl, hkx⟩; obtain ⟨cs, hcs, hcz, _⟩ := id (RowF.on hR.out hkx); have z0 := hcs.at3 (i := k * 3) (by omega); have z1 := hcs.at3 (i := k * 3 + 1) (by omega); have z2 := hcs.at3 (i := k * 3 + 2) (by omega); have y0 := hcs.frozen (k * 3); have y1 := hcs.frozen (k * 3 + 1); have y2 := hcs.frozen (k * 3 + 2))
      have hN := RowF.next (RowF.on hR.out hkx) HX.out
      go_roundw
      case rel => exact ⟨k + 1, by go_num, by omega, hN, (hK.out.trans hkx).set3 (by simp) _ _ _⟩
      case measure => simp [intOf]; omega
    · have q1 : ¬ (k : Int) < (ss.length : Int) := by omega
      have HR : Hid (StpsA wr (some ⟨w.heap.size, 0, none⟩) ss) := RowF.done (by have := hR.out; rwa [show k = ss.length by omega] at this)
      go_wp2_with fail
      go_ret
      exact ⟨rfl, HR.out, hK.out⟩
end Go.Proofs.Ytgempjjnfpmndaa
