/-
  How an argument of the type Node is read: a tree.
  What every law owes, where the argument is a tree of nodes and no slab is read.
-/
import Derived.Test.YtlinbkgeahgkjaaGreatDoorRows
import Derived.WalkKit
import Derived.ProofKit
import Derived.OpenShut
import Derived.Carry
import Derived.Deep.Slices
import Derived.Test.YtlinbkgeahgkjaaGreatDoorNodP
namespace Go.Proofs.YtlinbkgeahgkjaaGreatDoor
open Go.ChangeShapes Go.WideShapes Go.ChangeAt Go.RowKit

instance : Inhabited Nd := ⟨.mk 0 ⟨#[]⟩ 0 []⟩
theorem cellsIn : Tryz.prog.cellsOf 3 = 1 := by kernel_rfl
theorem cellsStr : Tryz.prog.cellsOf 9 = 1 := by kernel_rfl
theorem cellsNodes : Tryz.prog.cellsOf 22 = 1 := by kernel_rfl
theorem cellsNode : Tryz.prog.cellsOf 24 = 4 := by kernel_rfl
set_option maxRecDepth 100000 in
theorem node_of {H : Type} {enc : TypeId × Value → H} {W : World} : ∀ (fuel : Nat) {cs : List Value} {x : DataW H × List MemPlace}, DataW.trod enc Tryz.prog W 0 (fun _ => true) true fuel 24 cs = some x →
    ∃ t c0 c1 c2 c3, cs = [c0, c1, c2, c3] ∧ NdV W 0 t (.agg #[c0, c1, c2, c3]) := by
  intro fuel
  induction fuel using Nat.strongRecOn with
  | ind fuel ih =>
    intro cs x hf
    obtain ⟨xs, n, hn, _, hl, hlen, hff⟩ := DataW.trod_struct Tryz.underlying24 hf
    obtain ⟨c0, c1, c2, c3, rfl⟩ : ∃ c0 c1 c2 c3, cs = [c0, c1, c2, c3] := by
      have h1 : cs.length = 4 := hl.trans cellsNode
      match cs, h1 with
      | [c0, c1, c2, c3], _ => exact ⟨c0, c1, c2, c3, rfl⟩
    obtain ⟨y0, y1, y2, y3, rfl⟩ : ∃ y0 y1 y2 y3, xs = [y0, y1, y2, y3] := by
      match xs, hlen with
      | [y0, y1, y2, y3], _ => exact ⟨y0, y1, y2, y3, rfl⟩
    have h0 : DataW.trod enc Tryz.prog W 0 (fun _ => true) true n 3 [c0] = some y0 := by simpa [cellsIn] using hff 0 _ rfl
    have h1 : DataW.trod enc Tryz.prog W 0 (fun _ => true) true n 9 [c1] = some y1 := by simpa [cellsStr] using hff 1 _ rfl
    have h2 : DataW.trod enc Tryz.prog W 0 (fun _ => true) true n 3 [c2] = some y2 := by simpa [cellsIn] using hff 2 _ rfl
    have h3 : DataW.trod enc Tryz.prog W 0 (fun _ => true) true n 22 [c3] = some y3 := by simpa [cellsNodes] using hff 3 _ rfl
    obtain ⟨op, e0, _, _⟩ := DataW.trod_int Tryz.underlying3 h0
    obtain ⟨s, e1, _, hsl⟩ := DataW.trod_string Tryz.underlying9 h1
    obtain ⟨n', e2, _, _⟩ := DataW.trod_int Tryz.underlying3 h2
    simp at e0 e1 e2
    subst e0
    subst e1
    subst e2
    rcases DataW.trod_slice Tryz.underlying22 h3 with ⟨e3, _⟩ | ⟨a, len, cap, elems, rest, n2, hn2, e3, _, _, hlc, hcm, hel, hcell, _, _⟩
    · simp at e3
      subst e3
      refine ⟨.mk op s n' [], _, _, _, _, rfl, ?_⟩
      rw [NdV]
      exact ⟨none, 0, rfl, ⟨hsl, by simp⟩, .inl rfl⟩
    · simp at e3
      subst e3
      have key : ∀ i, i < len → ∃ t : Nd, ∃ c0 c1 c2 c3, W.cell? (a.add (i * 4)) = some c0 ∧ W.cell? (a.add (i * 4 + 1)) = some c1 ∧ W.cell? (a.add (i * 4 + 2)) = some c2 ∧ W.cell? (a.add (i * 4 + 3)) = some c3 ∧ NdV W 0 t (.agg #[c0, c1, c2, c3]) := fun i hi => by
        have h4 := hcell i hi
        rw [List.getElem?_eq_getElem (by omega)] at h4
        obtain ⟨cs', hc1, hc2⟩ := Option.bind_eq_some_iff.1 h4
        obtain ⟨t, c0, c1, c2, c3, rfl, hv⟩ := ih n2 (by omega) hc2
        rw [cellsNode] at hc1
        obtain ⟨_, _, hc⟩ := World.cells?_some hc1
        have g0 := hc 0 (by omega)
        have g1 := hc 1 (by omega)
        have g2 := hc 2 (by omega)
        have g3 := hc 3 (by omega)
        simp only [Go.Deep.add_add] at g0 g1 g2 g3
        exact ⟨t, c0, c1, c2, c3, by simpa using g0, by simpa using g1, by simpa using g2, by simpa using g3, hv⟩
      obtain ⟨f, hf2⟩ := Go.Deep.choose_lt key
      obtain ⟨b, off, spot⟩ := a
      refine ⟨.mk op s n' ((List.range len).map f), _, _, _, _, rfl, ?_⟩
      rw [NdV]
      refine ⟨some ⟨b, off, spot⟩, cap, by simp, ⟨hsl, by simp; omega⟩, ?_⟩
      by_cases h0 : len = 0
      · exact .inl (by simp [h0])
      · have hspot : spot = none := by
          obtain ⟨_, _, _, _, g0, _⟩ := hf2 0 (by omega)
          simpa [Addr.add] using World.cell?_spot g0
        subst hspot
        refine .inr ⟨b, off, rfl, Nat.zero_le _, NdsV.of (fun h => absurd h (by decide)) (fun k t e => ?_)⟩
        have hk : k < len := by
          have := (List.getElem?_eq_some_iff.1 e).1
          simpa using this
        have ht : t = f k := by
          rw [List.getElem?_map, List.getElem?_range hk] at e
          simpa using e.symm
        subst ht
        obtain ⟨c0, c1, c2, c3, g0, g1, g2, g3, hv⟩ := hf2 k hk
        exact ⟨c0, c1, c2, c3, by rw [← g0, add_plain], by rw [← g1, add_plain, Nat.add_assoc], by rw [← g2, add_plain, Nat.add_assoc], by rw [← g3, add_plain, Nat.add_assoc], hv⟩
set_option maxRecDepth 100000 in
theorem open_node {H : Type} {enc : TypeId × Value → H} {W : World} {base : Nat} {v : Value} {d : DataW H} {p : List MemPlace} (hv : Value.okWide Tryz.prog W .any base 24 v) (h : DataW.Trod enc Tryz.prog W 0 (fun _ => true) true 24 v d p) : ∃ t, NdV W 0 t v := by
  obtain ⟨cs, rfl, hsz⟩ := okWide_struct Tryz.underlying24 hv
  obtain ⟨fuel, hf⟩ := h
  obtain ⟨t, c0, c1, c2, c3, e, ht⟩ := node_of fuel hf
  refine ⟨t, ?_⟩
  have : cs = #[c0, c1, c2, c3] := by
    have e' : cs.toList = [c0, c1, c2, c3] := by simpa [Value.cells] using e
    rw [← e']
  rw [this]
  exact ht
end Go.Proofs.YtlinbkgeahgkjaaGreatDoor
namespace Go.Proofs.YtlinbkgeahgkjaaGreatDoor
open Go.RowKit
theorem laid : laidOutB Tryz.prog = true := by kernel_rfl
end Go.Proofs.YtlinbkgeahgkjaaGreatDoor
