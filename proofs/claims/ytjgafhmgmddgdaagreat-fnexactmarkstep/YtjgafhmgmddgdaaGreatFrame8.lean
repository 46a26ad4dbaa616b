/-
  How an argument of the type Marker is read.
-/
import Derived.Test.YtjgafhmgmddgdaaGreatFrame
namespace Go.Proofs.YtjgafhmgmddgdaaGreat
open Go.ChangeShapes Go.WideShapes Go.ChangeAt Go.RowKit

theorem cellsMarker : Tryz.prog.cellsOf 26 = 4 := by kernel_rfl
set_option maxRecDepth 100000 in
theorem open_marker {H : Type} {enc : TypeId × Value → H} {W : World} {base : Nat} {v : Value} {d : DataW H} {p : List MemPlace} (hv : Value.okWide Tryz.prog W .any base 26 v) (h : DataW.Trod enc Tryz.prog W 0 (fun _ => true) true 26 v d p) :
    ∃ (ph at' : Int) (ga ba : Option Addr) (gc bc : Nat) (gs bs : List Int), v = .agg #[.int .i64 ph, .slice ga gs.length gc, .slice ba bs.length bc, .int .i64 at'] ∧ (gs.length ≤ gc ∧ gc ≤ maxLen ∧ Ints W ga gs) ∧ (bs.length ≤ bc ∧ bc ≤ maxLen ∧ Ints W ba bs) ∧ (Lit.int .i64 ph).wf = true ∧ (Lit.int .i64 at').wf = true := by
  obtain ⟨cs, rfl, hsz⟩ := okWide_struct Tryz.underlying26 hv
  obtain ⟨c0, c1, c2, c3, rfl⟩ : ∃ c0 c1 c2 c3, cs = #[c0, c1, c2, c3] := by
    have h1 : cs.size = 4 := hsz.trans cellsMarker
    obtain ⟨l⟩ := cs
    match l, h1 with
    | [c0, c1, c2, c3], _ => exact ⟨c0, c1, c2, c3, rfl⟩
  obtain ⟨fuel, hf⟩ := h
  obtain ⟨xs, n, _, _, hl, hlen, hff⟩ := DataW.trod_struct Tryz.underlying26 hf
  obtain ⟨y0, y1, y2, y3, rfl⟩ : ∃ y0 y1 y2 y3, xs = [y0, y1, y2, y3] := by
    match xs, hlen with
    | [y0, y1, y2, y3], _ => exact ⟨y0, y1, y2, y3, rfl⟩
  have h0 : DataW.trod enc Tryz.prog W 0 (fun _ => true) true n 3 [c0] = some y0 := by simpa [Value.cells, cellsI] using hff 0 _ rfl
  have h1 : DataW.trod enc Tryz.prog W 0 (fun _ => true) true n 22 [c1] = some y1 := by simpa [Value.cells, cellsS] using hff 1 _ rfl
  have h2 : DataW.trod enc Tryz.prog W 0 (fun _ => true) true n 22 [c2] = some y2 := by simpa [Value.cells, cellsS] using hff 2 _ rfl
  have h3 : DataW.trod enc Tryz.prog W 0 (fun _ => true) true n 3 [c3] = some y3 := by simpa [Value.cells, cellsI] using hff 3 _ rfl
  obtain ⟨ph, e0, _, w0⟩ := DataW.trod_int Tryz.underlying3 h0
  obtain ⟨at', e3, _, w3⟩ := DataW.trod_int Tryz.underlying3 h3
  obtain ⟨ga, gc, gs, rfl, g1, g2, g3⟩ := Ints.of h1
  obtain ⟨ba, bc, bs, rfl, b1, b2, b3⟩ := Ints.of h2
  simp at e0 e3
  subst e0
  subst e3
  exact ⟨ph, at', ga, ba, gc, bc, gs, bs, rfl, ⟨g1, g2, g3⟩, ⟨b1, b2, b3⟩, w0, w3⟩
end Go.Proofs.YtjgafhmgmddgdaaGreat
