/-
  How an argument of the type Machine is read (chapter 17).
-/
import Derived.Test.YtgempjjnfpmndaaMchP
import Derived.Test.YtgempjjnfpmndaaUntU
import Derived.Test.YtgempjjnfpmndaaFrameP
import Derived.ChangeArms
namespace Go.Proofs.Ytgempjjnfpmndaa
open Go.ChangeShapes Go.WideShapes Go.ChangeAt Go.RowKit
set_option linter.unusedSimpArgs false
set_option linter.unusedVariables false
theorem cellsFrameL : Try.prog.cellsOf 79 = 3 := by kernel_rfl
set_option maxRecDepth 100000 in
theorem frame_of {H : Type} {enc : TypeId × Value → H} {W : World} {fuel : Nat} {cs : List Value} {x : DataW H × List MemPlace} (hf : DataW.trod enc Try.prog W 0 (fun _ => true) true fuel 79 cs = some x) :
    ∃ o a b : Int, cs = [.int .i64 o, .int .i64 a, .int .i64 b] ∧ (Lit.int .i64 o).wf = true ∧ (Lit.int .i64 a).wf = true ∧ (Lit.int .i64 b).wf = true := by
  obtain ⟨xs, n, _, _, hl, hlen, hff⟩ := DataW.trod_struct Try.underlying79 hf
  obtain ⟨y0, y1, y2, rfl⟩ : ∃ y0 y1 y2, xs = [y0, y1, y2] := by
    match xs, hlen with
    | [y0, y1, y2], _ => exact ⟨y0, y1, y2, rfl⟩
  rw [cellsFrameL] at hl
  obtain ⟨c0, c1, c2, rfl⟩ : ∃ c0 c1 c2, cs = [c0, c1, c2] := by
    match cs, hl with
    | [c0, c1, c2], _ => exact ⟨c0, c1, c2, rfl⟩
  have h0 : DataW.trod enc Try.prog W 0 (fun _ => true) true n 3 [c0] = some y0 := by simpa [Value.cells, cellsIntS] using hff 0 _ rfl
  have h1 : DataW.trod enc Try.prog W 0 (fun _ => true) true n 3 [c1] = some y1 := by simpa [Value.cells, cellsIntS] using hff 1 _ rfl
  have h2 : DataW.trod enc Try.prog W 0 (fun _ => true) true n 3 [c2] = some y2 := by simpa [Value.cells, cellsIntS] using hff 2 _ rfl
  obtain ⟨o, e0, _, w0⟩ := DataW.trod_int Try.underlying3 h0
  obtain ⟨a, e1, _, w1⟩ := DataW.trod_int Try.underlying3 h1
  obtain ⟨b, e2, _, w2⟩ := DataW.trod_int Try.underlying3 h2
  simp at e0 e1 e2
  subst e0 e1 e2
  exact ⟨o, a, b, rfl, w0, w1, w2⟩
set_option maxRecDepth 100000 in
theorem frames_of {H : Type} {enc : TypeId × Value → H} {W : World} {fuel : Nat} {c : Value} {x : DataW H × List MemPlace} (hf : DataW.trod enc Try.prog W 0 (fun _ => true) true fuel 31 [c] = some x) :
    ∃ ao cap ss, c = .slice ao (List.length ss) cap ∧ ss.length ≤ maxLen ∧ StpsA W ao ss ∧ ∀ s ∈ ss, -9223372036854775808 ≤ s.2.2 ∧ s.2.2 ≤ 9223372036854775807 := by
  rcases DataW.trod_slice Try.underlying31 hf with ⟨e3, _⟩ | ⟨a, len, cap, elems, rest, n2, hn2, e3, _, _, hlc, hcm, hel, hcell, _, _⟩
  · simp at e3
    subst e3
    exact ⟨none, 0, [], rfl, by simp, fun j t ht => by simp at ht, fun s hs => by simp at hs⟩
  · simp at e3
    subst e3
    have key : ∀ i, i < len → ∃ t : Stp, (-9223372036854775808 ≤ t.2.2 ∧ t.2.2 ≤ 9223372036854775807) ∧ W.cell? (a.add (i * 3)) = some (.int .i64 t.1) ∧ W.cell? (a.add (i * 3 + 1)) = some (.int .i64 t.2.1) ∧ W.cell? (a.add (i * 3 + 2)) = some (.int .i64 t.2.2) := fun i hi => by
      have h4 := hcell i hi
      rw [List.getElem?_eq_getElem (by omega)] at h4
      obtain ⟨cs', hc1, hc2⟩ := Option.bind_eq_some_iff.1 h4
      obtain ⟨o, p, q, rfl, _, _, wq⟩ := frame_of hc2
      rw [cellsFrameL] at hc1
      obtain ⟨_, _, hc⟩ := World.cells?_some hc1
      have g0 := hc 0 (by omega)
      have g1 := hc 1 (by omega)
      have g2 := hc 2 (by omega)
      simp only [Go.Deep.add_add] at g0 g1 g2
      exact ⟨(o, p, q), wf_bounds wq, by simpa using g0, by simpa using g1, by simpa using g2⟩
    obtain ⟨f, hf2⟩ := Go.Deep.choose_lt key
    obtain ⟨b, off, spot⟩ := a
    refine ⟨some ⟨b, off, spot⟩, cap, (List.range len).map f, by simp, by simp; omega, fun k t e => ?_, fun s hs => by obtain ⟨k, hk, rfl⟩ := List.mem_map.1 hs; exact (hf2 k (by simpa using hk)).1⟩
    have hk : k < len := by
      have := (List.getElem?_eq_some_iff.1 e).1
      simpa using this
    have ht : t = f k := by
      rw [List.getElem?_map, List.getElem?_range hk] at e
      simpa using e.symm
    subst ht
    obtain ⟨_, g0, g1, g2⟩ := hf2 k hk
    have hspot : spot = none := by simpa [Addr.add] using World.cell?_spot (hf2 0 (by omega)).2.1
    subst hspot
    refine ⟨b, off, rfl, ?_, ?_, ?_⟩
    · rw [← g0]; unfold Addr.add; split <;> simp_all
    · rw [← g1]; unfold Addr.add; split <;> simp_all [Nat.add_assoc]
    · rw [← g2]; unfold Addr.add; split <;> simp_all [Nat.add_assoc]
theorem cellsMachineL : Try.prog.cellsOf 33 = 12 := by kernel_rfl
theorem cellsFramesL : Try.prog.cellsOf 31 = 1 := by kernel_rfl
theorem cellsBoolL : Try.prog.cellsOf 4 = 1 := by kernel_rfl
theorem cellsMarkerL : Try.prog.cellsOf 30 = 4 := by kernel_rfl
theorem cellsSlabL : Try.prog.cellsOf 28 = 1 := by kernel_rfl
theorem cellsIntsL : Try.prog.cellsOf 26 = 1 := by kernel_rfl
set_option maxRecDepth 100000 in
theorem unit_of {H : Type} {enc : TypeId × Value → H} {W : World} {fuel : Nat} {c0 c1 : Value} {x : DataW H × List MemPlace} (hf : DataW.trod enc Try.prog W 0 (fun _ => true) true fuel 25 [c0, c1] = some x) :
    ∃ (ca ta : Option Addr) (cc tc : Nat) (cs : List Cod) (ts : List ByteArray), c0 = .slice ca cs.length cc ∧ c1 = .slice ta ts.length tc ∧ FitC cs ∧ CodsA W ca cs ∧ FitT ts ∧ StA W ta ts := by
  obtain ⟨xs, n, _, _, hl, hlen, hff⟩ := DataW.trod_struct Try.underlying25 hf
  obtain ⟨y0, y1, rfl⟩ : ∃ y0 y1, xs = [y0, y1] := by
    match xs, hlen with
    | [y0, y1], _ => exact ⟨y0, y1, rfl⟩
  have h0 : DataW.trod enc Try.prog W 0 (fun _ => true) true n 22 [c0] = some y0 := by simpa [Value.cells, cellsCodesL] using hff 0 _ rfl
  have h1 : DataW.trod enc Try.prog W 0 (fun _ => true) true n 23 [c1] = some y1 := by simpa [Value.cells, cellsStrsF] using hff 1 _ rfl
  obtain ⟨ca, cc, cs, rfl, hF, hC⟩ := codes_of h0
  obtain ⟨ta, tc, ts, rfl, hG, hS⟩ := strs_of h1
  exact ⟨ca, ta, cc, tc, cs, ts, rfl, rfl, hF, hC, hG, hS⟩
set_option maxRecDepth 100000 in
theorem slab_of {H : Type} {enc : TypeId × Value → H} {W : World} {fuel : Nat} {c0 : Value} {x : DataW H × List MemPlace} (hf : DataW.trod enc Try.prog W 0 (fun _ => true) true fuel 28 [c0] = some x) :
    ∃ (ao : Option Addr) (cap : Nat) (zs : List Int), c0 = .slice ao zs.length cap ∧ zs.length ≤ cap ∧ cap ≤ maxLen ∧ Ints W ao zs := by
  obtain ⟨xs, n, _, _, hl, hlen, hff⟩ := DataW.trod_struct Try.underlying28 hf
  obtain ⟨y0, rfl⟩ : ∃ y0, xs = [y0] := by
    match xs, hlen with
    | [y0], _ => exact ⟨y0, rfl⟩
  have h0 : DataW.trod enc Try.prog W 0 (fun _ => true) true n 26 [c0] = some y0 := by simpa [Value.cells, cellsIntsL] using hff 0 _ rfl
  obtain ⟨ao, cap, zs, rfl, h1, h2, h3⟩ := Ints.of h0
  exact ⟨ao, cap, zs, rfl, h1, h2, h3⟩
set_option maxRecDepth 100000 in
theorem marker_of {H : Type} {enc : TypeId × Value → H} {W : World} {fuel : Nat} {c0 c1 c2 c3 : Value} {x : DataW H × List MemPlace} (hf : DataW.trod enc Try.prog W 0 (fun _ => true) true fuel 30 [c0, c1, c2, c3] = some x) :
    ∃ (ph at' : Int) (ga ba : Option Addr) (gc bc : Nat) (gs bs : List Int), c0 = .int .i64 ph ∧ c1 = .slice ga gs.length gc ∧ c2 = .slice ba bs.length bc ∧ c3 = .int .i64 at' ∧ (gs.length ≤ gc ∧ gc ≤ maxLen ∧ Ints W ga gs) ∧ (bs.length ≤ bc ∧ bc ≤ maxLen ∧ Ints W ba bs) ∧ (Lit.int .i64 ph).wf = true ∧ (Lit.int .i64 at').wf = true := by
  obtain ⟨xs, n, _, _, hl, hlen, hff⟩ := DataW.trod_struct Try.underlying30 hf
  obtain ⟨y0, y1, y2, y3, rfl⟩ : ∃ y0 y1 y2 y3, xs = [y0, y1, y2, y3] := by
    match xs, hlen with
    | [y0, y1, y2, y3], _ => exact ⟨y0, y1, y2, y3, rfl⟩
  have h0 : DataW.trod enc Try.prog W 0 (fun _ => true) true n 3 [c0] = some y0 := by simpa [Value.cells, cellsIntS] using hff 0 _ rfl
  have h1 : DataW.trod enc Try.prog W 0 (fun _ => true) true n 26 [c1] = some y1 := by simpa [Value.cells, cellsIntsL, cellsIntS] using hff 1 _ rfl
  have h2 : DataW.trod enc Try.prog W 0 (fun _ => true) true n 26 [c2] = some y2 := by simpa [Value.cells, cellsIntsL, cellsIntS] using hff 2 _ rfl
  have h3 : DataW.trod enc Try.prog W 0 (fun _ => true) true n 3 [c3] = some y3 := by simpa [Value.cells, cellsIntsL, cellsIntS] using hff 3 _ rfl
  obtain ⟨ph, e0, _, w0⟩ := DataW.trod_int Try.underlying3 h0
  obtain ⟨at', e3, _, w3⟩ := DataW.trod_int Try.underlying3 h3
  obtain ⟨ga, gc, gs, rfl, g1, g2, g3⟩ := Ints.of h1
  obtain ⟨ba, bc, bs, rfl, b1, b2, b3⟩ := Ints.of h2
  simp at e0 e3
  subst e0
  subst e3
  exact ⟨ph, at', ga, ba, gc, bc, gs, bs, rfl, rfl, rfl, rfl, ⟨g1, g2, g3⟩, ⟨b1, b2, b3⟩, w0, w3⟩
/-- What an argument of the type Machine fits. -/
structure MchWf (h : MchH) (m : Mch) : Prop where
  z : m.zs.length ≤ h.sc
  g : m.gs.length ≤ h.gc
  b : m.bs.length ≤ h.bc
  k : m.ks.length ≤ h.kc
  ph : (Lit.int .i64 m.ph).wf = true
  at' : (Lit.int .i64 m.at').wf = true
  cd : (Lit.int .i64 m.cd).wf = true
  f : ∀ s ∈ m.fs, -9223372036854775808 ≤ s.2.2 ∧ s.2.2 ≤ 9223372036854775807
set_option maxRecDepth 100000 in
theorem open_machine {H : Type} {enc : TypeId × Value → H} {W : World} {base : Nat} {v : Value} {d : DataW H} {p : List MemPlace} (hv : Value.okWide Try.prog W .any base 33 v) (h : DataW.Trod enc Try.prog W 0 (fun _ => true) true 33 v d p) :
    ∃ (h : MchH) (m : Mch), v = .agg (mchC h m) ∧ MchFit m ∧ MchA W h m ∧ MchWf h m := by
  obtain ⟨cs, rfl, hsz⟩ := okWide_struct Try.underlying33 hv
  obtain ⟨c0, c1, c2, c3, c4, c5, c6, c7, c8, c9, c10, c11, rfl⟩ : ∃ c0 c1 c2 c3 c4 c5 c6 c7 c8 c9 c10 c11, cs = #[c0, c1, c2, c3, c4, c5, c6, c7, c8, c9, c10, c11] := by
    have h1 : cs.size = 12 := hsz.trans cellsMachineL
    obtain ⟨l⟩ := cs
    match l, h1 with
    | [c0, c1, c2, c3, c4, c5, c6, c7, c8, c9, c10, c11], _ => exact ⟨c0, c1, c2, c3, c4, c5, c6, c7, c8, c9, c10, c11, rfl⟩
  obtain ⟨fuel, hf⟩ := h
  obtain ⟨xs, n, _, _, hl, hlen, hff⟩ := DataW.trod_struct Try.underlying33 hf
  obtain ⟨y0, y1, y2, y3, y4, y5, y6, y7, rfl⟩ : ∃ y0 y1 y2 y3 y4 y5 y6 y7, xs = [y0, y1, y2, y3, y4, y5, y6, y7] := by
    match xs, hlen with
    | [y0, y1, y2, y3, y4, y5, y6, y7], _ => exact ⟨y0, y1, y2, y3, y4, y5, y6, y7, rfl⟩
  have h0 : DataW.trod enc Try.prog W 0 (fun _ => true) true n 25 [c0, c1] = some y0 := by simpa [Value.cells, cellsIntS, cellsIntsL, cellsUnitL, cellsSlabL, cellsMarkerL, cellsFramesL, cellsStrsF, cellsBoolL] using hff 0 _ rfl
  have h1 : DataW.trod enc Try.prog W 0 (fun _ => true) true n 28 [c2] = some y1 := by simpa [Value.cells, cellsIntS, cellsIntsL, cellsUnitL, cellsSlabL, cellsMarkerL, cellsFramesL, cellsStrsF, cellsBoolL] using hff 1 _ rfl
  have h2 : DataW.trod enc Try.prog W 0 (fun _ => true) true n 30 [c3, c4, c5, c6] = some y2 := by simpa [Value.cells, cellsIntS, cellsIntsL, cellsUnitL, cellsSlabL, cellsMarkerL, cellsFramesL, cellsStrsF, cellsBoolL] using hff 2 _ rfl
  have h3 : DataW.trod enc Try.prog W 0 (fun _ => true) true n 31 [c7] = some y3 := by simpa [Value.cells, cellsIntS, cellsIntsL, cellsUnitL, cellsSlabL, cellsMarkerL, cellsFramesL, cellsStrsF, cellsBoolL] using hff 3 _ rfl
  have h4 : DataW.trod enc Try.prog W 0 (fun _ => true) true n 26 [c8] = some y4 := by simpa [Value.cells, cellsIntS, cellsIntsL, cellsUnitL, cellsSlabL, cellsMarkerL, cellsFramesL, cellsStrsF, cellsBoolL] using hff 4 _ rfl
  have h5 : DataW.trod enc Try.prog W 0 (fun _ => true) true n 23 [c9] = some y5 := by simpa [Value.cells, cellsIntS, cellsIntsL, cellsUnitL, cellsSlabL, cellsMarkerL, cellsFramesL, cellsStrsF, cellsBoolL] using hff 5 _ rfl
  have h6 : DataW.trod enc Try.prog W 0 (fun _ => true) true n 4 [c10] = some y6 := by simpa [Value.cells, cellsIntS, cellsIntsL, cellsUnitL, cellsSlabL, cellsMarkerL, cellsFramesL, cellsStrsF, cellsBoolL] using hff 6 _ rfl
  have h7 : DataW.trod enc Try.prog W 0 (fun _ => true) true n 3 [c11] = some y7 := by simpa [Value.cells, cellsIntS, cellsIntsL, cellsUnitL, cellsSlabL, cellsMarkerL, cellsFramesL, cellsStrsF, cellsBoolL] using hff 7 _ rfl
  obtain ⟨ca, ta, cc, tc, cs, ts, rfl, rfl, f1, f2, f3, f4⟩ := unit_of h0
  obtain ⟨sa, sc, zs, rfl, s1, s2, s3⟩ := slab_of h1
  obtain ⟨ph, at', ga, ba, gc, bc, gs, bs, rfl, rfl, rfl, rfl, ⟨g1, g2, g3⟩, ⟨b1, b2, b3⟩, w1, w2⟩ := marker_of h2
  obtain ⟨fa, fc, fs, rfl, r1, r2, r3⟩ := frames_of h3
  obtain ⟨ka, kc, ks, rfl, k1, k2, k3⟩ := Ints.of h4
  obtain ⟨la, lc, ls, rfl, l1, l2⟩ := strs_of h5
  obtain ⟨ov, e6, _⟩ := DataW.trod_bool Try.underlying4 h6
  obtain ⟨cd, e7, _, w7⟩ := DataW.trod_int Try.underlying3 h7
  simp at e6 e7
  subst e6
  subst e7
  exact ⟨⟨ca, cc, ta, tc, sa, sc, ga, gc, ba, bc, fa, fc, ka, kc, la, lc⟩, ⟨cs, ts, zs, ph, gs, bs, at', fs, ks, ls, ov, cd⟩, rfl, ⟨f1, f3, Nat.le_trans s1 s2, Nat.le_trans g1 g2, Nat.le_trans b1 b2, r1, Nat.le_trans k1 k2, l1⟩, ⟨f2, f4, s3, g3, b3, r2, k3, l2⟩, ⟨s1, g1, b1, k1, w1, w2, w7, r3⟩⟩
end Go.Proofs.Ytgempjjnfpmndaa
