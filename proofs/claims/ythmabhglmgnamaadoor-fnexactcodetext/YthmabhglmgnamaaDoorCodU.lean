/-
  How an argument that is a code is read (chapter 19): its steps, with what their numbers may be.
-/
import Derived.Test.YthmabhglmgnamaaDoorUntT
namespace Go.Proofs.YthmabhglmgnamaaDoor
open Go.ChangeShapes Go.WideShapes Go.ChangeAt Go.RowKit
set_option linter.unusedSimpArgs false
set_option linter.unusedVariables false
/-- The numbers of each step are of 64 bits. -/
def StpB (ss : List Stp) : Prop := ∀ s ∈ ss, (-9223372036854775808 ≤ s.2.1 ∧ s.2.1 ≤ 9223372036854775807) ∧ -9223372036854775808 ≤ s.2.2 ∧ s.2.2 ≤ 9223372036854775807
theorem cellsCodeV : Tryd.prog.cellsOf 24 = 3 := by kernel_rfl
theorem cellsStepsV : Tryd.prog.cellsOf 22 = 1 := by kernel_rfl
set_option maxRecDepth 100000 in
theorem stepsB_of {H : Type} {enc : TypeId × Value → H} {W : World} {fuel : Nat} {c : Value} {x : DataW H × List MemPlace} (hf : DataW.trod enc Tryd.prog W 0 (fun _ => true) true fuel 22 [c] = some x) :
    ∃ ao cap ss, c = .slice ao (List.length ss) cap ∧ ss.length ≤ maxLen ∧ StpB ss ∧ StpsA W ao ss := by
  rcases DataW.trod_slice Tryd.underlying22 hf with ⟨e3, _⟩ | ⟨a, len, cap, elems, rest, n2, hn2, e3, _, _, hlc, hcm, hel, hcell, _, _⟩
  · simp at e3
    subst e3
    exact ⟨none, 0, [], rfl, by simp, fun s hs => by simp at hs, fun j t ht => by simp at ht⟩
  · simp at e3
    subst e3
    have key : ∀ i, i < len → ∃ t : Stp, (W.cell? (a.add (i * 3)) = some (.int .i64 t.1) ∧ W.cell? (a.add (i * 3 + 1)) = some (.int .i64 t.2.1) ∧ W.cell? (a.add (i * 3 + 2)) = some (.int .i64 t.2.2)) ∧ (-9223372036854775808 ≤ t.2.1 ∧ t.2.1 ≤ 9223372036854775807) ∧ -9223372036854775808 ≤ t.2.2 ∧ t.2.2 ≤ 9223372036854775807 := fun i hi => by
      have h4 := hcell i hi
      rw [List.getElem?_eq_getElem (by omega)] at h4
      obtain ⟨cs', hc1, hc2⟩ := Option.bind_eq_some_iff.1 h4
      obtain ⟨o, p, q, rfl, wo, wp, wq⟩ := step_of hc2
      rw [cellsStepL] at hc1
      obtain ⟨_, _, hc⟩ := World.cells?_some hc1
      have g0 := hc 0 (by omega)
      have g1 := hc 1 (by omega)
      have g2 := hc 2 (by omega)
      simp only [Go.Deep.add_add] at g0 g1 g2
      exact ⟨(o, p, q), ⟨by simpa using g0, by simpa using g1, by simpa using g2⟩, bounds_i64 wp, bounds_i64 wq⟩
    obtain ⟨f, hf2⟩ := Go.Deep.choose_lt key
    obtain ⟨b, off, spot⟩ := a
    refine ⟨some ⟨b, off, spot⟩, cap, (List.range len).map f, by simp, by simp; omega, fun s hs => ?_, fun k t e => ?_⟩
    · obtain ⟨k, hk, rfl⟩ := List.mem_map.1 hs
      exact (hf2 k (by simpa using hk)).2
    · have hk : k < len := by
        have := (List.getElem?_eq_some_iff.1 e).1
        simpa using this
      have ht : t = f k := by
        rw [List.getElem?_map, List.getElem?_range hk] at e
        simpa using e.symm
      subst ht
      obtain ⟨g0, g1, g2⟩ := (hf2 k hk).1
      have hspot : spot = none := by simpa [Addr.add] using World.cell?_spot (hf2 0 (by omega)).1.1
      subst hspot
      refine ⟨b, off, rfl, ?_, ?_, ?_⟩
      · rw [← g0]; unfold Addr.add; split <;> simp_all
      · rw [← g1]; unfold Addr.add; split <;> simp_all [Nat.add_assoc]
      · rw [← g2]; unfold Addr.add; split <;> simp_all [Nat.add_assoc]
set_option maxRecDepth 100000 in
theorem open_code {H : Type} {enc : TypeId × Value → H} {W : World} {base : Nat} {v : Value} {d : DataW H} {p : List MemPlace} (hv : Value.okWide Tryd.prog W .any base 24 v) (h : DataW.Trod enc Tryd.prog W 0 (fun _ => true) true 24 v d p) :
    ∃ (n' v' : Int) (ao : Option Addr) (cap : Nat) (ss : List Stp), v = .agg #[.int .i64 n', .int .i64 v', .slice ao ss.length cap] ∧ ss.length ≤ maxLen ∧ StpB ss ∧ StpsA W ao ss := by
  obtain ⟨cs, rfl, hsz⟩ := okWide_struct Tryd.underlying24 hv
  obtain ⟨c0, c1, c2, rfl⟩ : ∃ c0 c1 c2, cs = #[c0, c1, c2] := by
    have h1 : cs.size = 3 := hsz.trans cellsCodeV
    obtain ⟨l⟩ := cs
    match l, h1 with
    | [c0, c1, c2], _ => exact ⟨c0, c1, c2, rfl⟩
  obtain ⟨fuel, hf⟩ := h
  obtain ⟨xs, n, _, _, hl, hlen, hff⟩ := DataW.trod_struct Tryd.underlying24 hf
  obtain ⟨y0, y1, y2, rfl⟩ : ∃ y0 y1 y2, xs = [y0, y1, y2] := by
    match xs, hlen with
    | [y0, y1, y2], _ => exact ⟨y0, y1, y2, rfl⟩
  have h0 : DataW.trod enc Tryd.prog W 0 (fun _ => true) true n 3 [c0] = some y0 := by simpa [Value.cells, cellsIntS] using hff 0 _ rfl
  have h1 : DataW.trod enc Tryd.prog W 0 (fun _ => true) true n 3 [c1] = some y1 := by simpa [Value.cells, cellsIntS] using hff 1 _ rfl
  have h2 : DataW.trod enc Tryd.prog W 0 (fun _ => true) true n 22 [c2] = some y2 := by simpa [Value.cells, cellsStepsV] using hff 2 _ rfl
  obtain ⟨o, e0, _, w0⟩ := DataW.trod_int Tryd.underlying3 h0
  obtain ⟨a, e1, _, w1⟩ := DataW.trod_int Tryd.underlying3 h1
  obtain ⟨ao, cap, ss, rfl, h3, h4, h5⟩ := stepsB_of h2
  simp at e0 e1
  subst e0 e1
  exact ⟨o, a, ao, cap, ss, rfl, h3, h4, h5⟩
end Go.Proofs.YthmabhglmgnamaaDoor
