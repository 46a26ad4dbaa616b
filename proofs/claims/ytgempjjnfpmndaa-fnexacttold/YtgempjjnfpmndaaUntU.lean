/-
  What the laws do with units: a copy of the whole; and how such an argument is read (chapter 15).
-/
import Derived.Test.YtgempjjnfpmndaaUntT
namespace Go.Proofs.Ytgempjjnfpmndaa
open Go.ChangeShapes Go.WideShapes Go.ChangeAt Go.RowKit
set_option linter.unusedSimpArgs false
set_option linter.unusedVariables false
set_option maxHeartbeats 8000000 in
set_option maxRecDepth 100000 in
theorem toUnit_ok (w : World) (ca ta : Option Addr) (cc tc : Nat) (cs : List Cod) (ts : List ByteArray) (hA : CodsA w ca cs) (hB : StA w ta ts) (hl : cs.length ≤ 1048576) (hI : ∀ c ∈ cs, c.ss.length ≤ 1048576) (ht : ts.length ≤ 1048576) :
    Calls Try.prog 19 #[.agg #[.slice ca cs.length cc, .slice ta ts.length tc]] w fun e w' => ∃ g h, e = .returned (.agg #[.slice (some ⟨g, 0, none⟩) cs.length cs.length, .slice (some ⟨h, 0, none⟩) ts.length ts.length]) ∧ CodsA w' (some ⟨g, 0, none⟩) cs ∧ StA w' (some ⟨h, 0, none⟩) ts ∧ Kept w w' := by
  have k3 : Kept w (((w.alloc (.cells #[.slice ca cs.length cc, .slice ta ts.length tc] 25)).alloc (.cells #[.slice none 0 0, .slice none 0 0] 40)).alloc (.cells #[.slice none 0 0, .slice none 0 0] 40)) := ((Kept.alloc (Below.refl _ _) _).alloc _).alloc _
  have y0 := ((Cells.new w 25 #[.slice ca cs.length cc, .slice ta ts.length tc]).alloc (.cells #[.slice none 0 0, .slice none 0 0] 40)).alloc (.cells #[.slice none 0 0, .slice none 0 0] 40)
  have y1 := (Cells.new (w.alloc (.cells #[.slice ca cs.length cc, .slice ta ts.length tc] 25)) 40 #[.slice none 0 0, .slice none 0 0]).alloc (.cells #[.slice none 0 0, .slice none 0 0] 40)
  have y2 := Cells.new ((w.alloc (.cells #[.slice ca cs.length cc, .slice ta ts.length tc] 25)).alloc (.cells #[.slice none 0 0, .slice none 0 0] 40)) 40 #[.slice none 0 0, .slice none 0 0]
  have hs3 : (((w.alloc (.cells #[.slice ca cs.length cc, .slice ta ts.length tc] 25)).alloc (.cells #[.slice none 0 0, .slice none 0 0] 40)).alloc (.cells #[.slice none 0 0, .slice none 0 0] 40)).heap.size = w.heap.size + 3 := by simp
  simp only [World.size_alloc] at y0 y1 y2
  have hC := toCodeS_ok _ ca cc cs (hA.kept k3) hl hI
  rw [hs3] at hC
  have HB : Hid (StA w ta ts) := hB
  have HT : Hid (ts.length ≤ 1048576) := ht
  have HK3 : Hid _ := k3
  clear hA hl hI hB ht
  go_enter Try.func19, Try.ntmps19
  go_wp2_with fail
  refine hC.mono ?_
  rintro e w1 ⟨rfl, hN, hk1⟩
  have x0 := y0.kept hk1
  have x1 := y1.kept hk1
  have x2 := y2.kept hk1
  have c0 := x2.cell 0; have f0 := x2.frozen 0; have l2 := x2.lt
  have hsz1 : w.heap.size + 3 ≤ w1.heap.size := by have := hk1.size; rw [hs3] at this; exact this
  have v0 := x0.other (p := ⟨w.heap.size + 1 + 1, 0, none⟩) (by simp; omega) (.slice (some ⟨w.heap.size + 3, 0, none⟩) cs.length cs.length)
  have v1 := x1.other (p := ⟨w.heap.size + 1 + 1, 0, none⟩) (by simp) (.slice (some ⟨w.heap.size + 3, 0, none⟩) cs.length cs.length)
  have v2 := x2.set 0 (.slice (some ⟨w.heap.size + 3, 0, none⟩) cs.length cs.length)
  have hN1 := hN.other (i := w.heap.size + 1 + 1) (k := 0) (v := .slice (some ⟨w.heap.size + 3, 0, none⟩) cs.length cs.length) (by omega)
  have kW : Kept w (w1.setCell ⟨w.heap.size + 1 + 1, 0, none⟩ (.slice (some ⟨w.heap.size + 3, 0, none⟩) cs.length cs.length)) := (Kept.trans HK3.out hk1).set (by simp; omega) _
  have hszW : (w1.setCell ⟨w.heap.size + 1 + 1, 0, none⟩ (.slice (some ⟨w.heap.size + 3, 0, none⟩) cs.length cs.length)).heap.size = w1.heap.size := by simp
  have HsW : Hid (w.heap.size + 3 ≤ w1.heap.size) := hsz1
  have a0 := v0.cell 0; have a1 := v0.cell 1
  have HN1 : Hid _ := hN1
  have hD := toStringS_ok (w1.setCell ⟨w.heap.size + 1 + 1, 0, none⟩ (.slice (some ⟨w.heap.size + 3, 0, none⟩) cs.length cs.length)) ta tc ts (StA.kept HB.out kW) HT.out
  rw [hszW] at hD
  clear hC y0 y1 y2 hN x0 x1 hszW hN1 hsz1
  go_wp2_with (go_at_call 24; refine hD.mono ?_; rintro e w2 ⟨rfl, hS, hk2⟩; have m2 := v2.kept hk2; have m1 := v1.kept hk2; have e0 := m2.cell 0; have e1 := m2.cell 1; have r0 := m2.frozen 0; have r1 := m2.frozen 1; have e2 := m1.cell 0; have e3 := m1.cell 1; have r2 := m1.frozen 0; have r3 := m1.frozen 1)
  have z := (((m1.other (p := ⟨w.heap.size + 1 + 1, 1, none⟩) (by simp) (.slice (some ⟨w1.heap.size, 0, none⟩) ts.length ts.length)).set 0 (.slice (some ⟨w.heap.size + 3, 0, none⟩) cs.length cs.length))).set 1 (.slice (some ⟨w1.heap.size, 0, none⟩) ts.length ts.length)
  have z0 := z.cell 0
  have z1 := z.cell 1
  have hQ := CodsO.kept HN1.out hk2
  have hs1 := HsW.out
  have hR := ((hQ.other (i := w.heap.size + 1 + 1) (k := 1) (v := .slice (some ⟨w1.heap.size, 0, none⟩) ts.length ts.length) (by omega)).other (i := w.heap.size + 1) (k := 0) (v := .slice (some ⟨w.heap.size + 3, 0, none⟩) cs.length cs.length) (by omega)).other (i := w.heap.size + 1) (k := 1) (v := .slice (some ⟨w1.heap.size, 0, none⟩) ts.length ts.length) (by omega)
  refine bodyPost_ret (v := .agg #[.slice (some ⟨w.heap.size + 3, 0, none⟩) cs.length cs.length, .slice (some ⟨w1.heap.size, 0, none⟩) ts.length ts.length]) (by simp [results, Try.results19, go_sem, z0, z1]) rfl ⟨_, _, rfl, hR.all, StA.other (StA.other (StA.other hS (by omega)) (by omega)) (by omega), (((Kept.trans kW hk2).set (by simp; omega) _).set (by simp) _).set (by simp) _⟩
theorem cellsUnitL : Try.prog.cellsOf 25 = 2 := by kernel_rfl
theorem cellsCodeL : Try.prog.cellsOf 87 = 3 := by kernel_rfl
theorem cellsCodesL : Try.prog.cellsOf 22 = 1 := by kernel_rfl
theorem cellsStepsL : Try.prog.cellsOf 85 = 1 := by kernel_rfl
set_option maxRecDepth 100000 in
theorem steps_of {H : Type} {enc : TypeId × Value → H} {W : World} {fuel : Nat} {c : Value} {x : DataW H × List MemPlace} (hf : DataW.trod enc Try.prog W 0 (fun _ => true) true fuel 85 [c] = some x) :
    ∃ ao cap ss, c = .slice ao (List.length ss) cap ∧ ss.length ≤ maxLen ∧ StpsA W ao ss := by
  rcases DataW.trod_slice Try.underlying85 hf with ⟨e3, _⟩ | ⟨a, len, cap, elems, rest, n2, hn2, e3, _, _, hlc, hcm, hel, hcell, _, _⟩
  · simp at e3
    subst e3
    exact ⟨none, 0, [], rfl, by simp, fun j t ht => by simp at ht⟩
  · simp at e3
    subst e3
    have key : ∀ i, i < len → ∃ t : Stp, W.cell? (a.add (i * 3)) = some (.int .i64 t.1) ∧ W.cell? (a.add (i * 3 + 1)) = some (.int .i64 t.2.1) ∧ W.cell? (a.add (i * 3 + 2)) = some (.int .i64 t.2.2) := fun i hi => by
      have h4 := hcell i hi
      rw [List.getElem?_eq_getElem (by omega)] at h4
      obtain ⟨cs', hc1, hc2⟩ := Option.bind_eq_some_iff.1 h4
      obtain ⟨o, p, q, rfl, _, _, _⟩ := step_of hc2
      rw [cellsStepL] at hc1
      obtain ⟨_, _, hc⟩ := World.cells?_some hc1
      have g0 := hc 0 (by omega)
      have g1 := hc 1 (by omega)
      have g2 := hc 2 (by omega)
      simp only [Go.Deep.add_add] at g0 g1 g2
      exact ⟨(o, p, q), by simpa using g0, by simpa using g1, by simpa using g2⟩
    obtain ⟨f, hf2⟩ := Go.Deep.choose_lt key
    obtain ⟨b, off, spot⟩ := a
    refine ⟨some ⟨b, off, spot⟩, cap, (List.range len).map f, by simp, by simp; omega, fun k t e => ?_⟩
    have hk : k < len := by
      have := (List.getElem?_eq_some_iff.1 e).1
      simpa using this
    have ht : t = f k := by
      rw [List.getElem?_map, List.getElem?_range hk] at e
      simpa using e.symm
    subst ht
    obtain ⟨g0, g1, g2⟩ := hf2 k hk
    have hspot : spot = none := by simpa [Addr.add] using World.cell?_spot (hf2 0 (by omega)).1
    subst hspot
    refine ⟨b, off, rfl, ?_, ?_, ?_⟩
    · rw [← g0]; unfold Addr.add; split <;> simp_all
    · rw [← g1]; unfold Addr.add; split <;> simp_all [Nat.add_assoc]
    · rw [← g2]; unfold Addr.add; split <;> simp_all [Nat.add_assoc]
set_option maxRecDepth 100000 in
theorem code_of {H : Type} {enc : TypeId × Value → H} {W : World} {fuel : Nat} {cs : List Value} {x : DataW H × List MemPlace} (hf : DataW.trod enc Try.prog W 0 (fun _ => true) true fuel 87 cs = some x) :
    ∃ n v ao cap ss, cs = [.int .i64 n, .int .i64 v, .slice ao (List.length ss) cap] ∧ ss.length ≤ maxLen ∧ StpsA W ao ss := by
  obtain ⟨xs, n, _, _, hl, hlen, hff⟩ := DataW.trod_struct Try.underlying87 hf
  obtain ⟨y0, y1, y2, rfl⟩ : ∃ y0 y1 y2, xs = [y0, y1, y2] := by
    match xs, hlen with
    | [y0, y1, y2], _ => exact ⟨y0, y1, y2, rfl⟩
  rw [cellsCodeL] at hl
  obtain ⟨c0, c1, c2, rfl⟩ : ∃ c0 c1 c2, cs = [c0, c1, c2] := by
    match cs, hl with
    | [c0, c1, c2], _ => exact ⟨c0, c1, c2, rfl⟩
  have h0 : DataW.trod enc Try.prog W 0 (fun _ => true) true n 3 [c0] = some y0 := by simpa [Value.cells, cellsIntS] using hff 0 _ rfl
  have h1 : DataW.trod enc Try.prog W 0 (fun _ => true) true n 3 [c1] = some y1 := by simpa [Value.cells, cellsIntS] using hff 1 _ rfl
  have h2 : DataW.trod enc Try.prog W 0 (fun _ => true) true n 85 [c2] = some y2 := by simpa [Value.cells, cellsStepsL] using hff 2 _ rfl
  obtain ⟨o, e0, _, w0⟩ := DataW.trod_int Try.underlying3 h0
  obtain ⟨a, e1, _, w1⟩ := DataW.trod_int Try.underlying3 h1
  obtain ⟨ao, cap, ss, rfl, h3, h4⟩ := steps_of h2
  simp at e0 e1
  subst e0 e1
  exact ⟨o, a, ao, cap, ss, rfl, h3, h4⟩
set_option maxRecDepth 100000 in
theorem codes_of {H : Type} {enc : TypeId × Value → H} {W : World} {fuel : Nat} {c : Value} {x : DataW H × List MemPlace} (hf : DataW.trod enc Try.prog W 0 (fun _ => true) true fuel 22 [c] = some x) :
    ∃ ao cap cs, c = .slice ao (List.length cs) cap ∧ FitC cs ∧ CodsA W ao cs := by
  rcases DataW.trod_slice Try.underlying22 hf with ⟨e3, _⟩ | ⟨a, len, cap, elems, rest, n2, hn2, e3, _, _, hlc, hcm, hel, hcell, _, _⟩
  · simp at e3
    subst e3
    exact ⟨none, 0, [], rfl, ⟨by simp, by simp⟩, fun j t ht => by simp at ht⟩
  · simp at e3
    subst e3
    have key : ∀ i, i < len → ∃ t : Cod, t.ss.length ≤ maxLen ∧ ∃ xo xc, W.cell? (a.add (i * 3)) = some (.int .i64 t.n) ∧ W.cell? (a.add (i * 3 + 1)) = some (.int .i64 t.v) ∧ W.cell? (a.add (i * 3 + 2)) = some (.slice xo t.ss.length xc) ∧ StpsA W xo t.ss := fun i hi => by
      have h4 := hcell i hi
      rw [List.getElem?_eq_getElem (by omega)] at h4
      obtain ⟨cs', hc1, hc2⟩ := Option.bind_eq_some_iff.1 h4
      obtain ⟨n, v, xo, xc, ss, rfl, hm, hS⟩ := code_of hc2
      rw [cellsCodeL] at hc1
      obtain ⟨_, _, hc⟩ := World.cells?_some hc1
      have g0 := hc 0 (by omega)
      have g1 := hc 1 (by omega)
      have g2 := hc 2 (by omega)
      simp only [Go.Deep.add_add] at g0 g1 g2
      exact ⟨⟨n, v, ss⟩, hm, xo, xc, by simpa using g0, by simpa using g1, by simpa using g2, hS⟩
    obtain ⟨f, hf2⟩ := Go.Deep.choose_lt key
    obtain ⟨b, off, spot⟩ := a
    refine ⟨some ⟨b, off, spot⟩, cap, (List.range len).map f, by simp, ⟨by simp; omega, fun t ht => ?_⟩, fun k t e => ?_⟩
    · obtain ⟨k, hk, rfl⟩ := List.mem_map.1 ht
      exact (hf2 k (by simpa using hk)).1
    · have hk : k < len := by
        have := (List.getElem?_eq_some_iff.1 e).1
        simpa using this
      have ht : t = f k := by
        rw [List.getElem?_map, List.getElem?_range hk] at e
        simpa using e.symm
      subst ht
      obtain ⟨_, xo, xc, g0, g1, g2, hS⟩ := hf2 k hk
      have hspot : spot = none := by
        obtain ⟨_, _, _, g', _⟩ := hf2 0 (by omega)
        simpa [Addr.add] using World.cell?_spot g'
      subst hspot
      refine ⟨b, off, xo, xc, rfl, ?_, ?_, ?_, hS⟩
      · rw [← g0]; unfold Addr.add; split <;> simp_all
      · rw [← g1]; unfold Addr.add; split <;> simp_all [Nat.add_assoc]
      · rw [← g2]; unfold Addr.add; split <;> simp_all [Nat.add_assoc]
set_option maxRecDepth 100000 in
theorem open_unit {H : Type} {enc : TypeId × Value → H} {W : World} {base : Nat} {v : Value} {d : DataW H} {p : List MemPlace} (hv : Value.okWide Try.prog W .any base 25 v) (h : DataW.Trod enc Try.prog W 0 (fun _ => true) true 25 v d p) :
    ∃ (ca ta : Option Addr) (cc tc : Nat) (cs : List Cod) (ts : List ByteArray), v = .agg #[.slice ca cs.length cc, .slice ta ts.length tc] ∧ FitC cs ∧ CodsA W ca cs ∧ FitT ts ∧ StA W ta ts := by
  obtain ⟨cs, rfl, hsz⟩ := okWide_struct Try.underlying25 hv
  obtain ⟨c0, c1, rfl⟩ : ∃ c0 c1, cs = #[c0, c1] := by
    have h1 : cs.size = 2 := hsz.trans cellsUnitL
    obtain ⟨l⟩ := cs
    match l, h1 with
    | [c0, c1], _ => exact ⟨c0, c1, rfl⟩
  obtain ⟨fuel, hf⟩ := h
  obtain ⟨xs, n, _, _, hl, hlen, hff⟩ := DataW.trod_struct Try.underlying25 hf
  obtain ⟨y0, y1, rfl⟩ : ∃ y0 y1, xs = [y0, y1] := by
    match xs, hlen with
    | [y0, y1], _ => exact ⟨y0, y1, rfl⟩
  have h0 : DataW.trod enc Try.prog W 0 (fun _ => true) true n 22 [c0] = some y0 := by simpa [Value.cells, cellsCodesL] using hff 0 _ rfl
  have h1 : DataW.trod enc Try.prog W 0 (fun _ => true) true n 23 [c1] = some y1 := by simpa [Value.cells, cellsStrsF] using hff 1 _ rfl
  obtain ⟨ca, cc, cs, rfl, hF, hC⟩ := codes_of h0
  obtain ⟨ta, tc, ts, rfl, hG, hS⟩ := strs_of h1
  exact ⟨ca, ta, cc, tc, cs, ts, rfl, hF, hC, hG, hS⟩
end Go.Proofs.Ytgempjjnfpmndaa
