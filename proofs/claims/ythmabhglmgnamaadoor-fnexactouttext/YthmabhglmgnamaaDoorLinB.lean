/-
  What the laws do with an Outcome: how great, a copy, whether two are the same; and how such an argument is read.
-/
import Derived.Test.YthmabhglmgnamaaDoorFndB
namespace Go.Proofs.YthmabhglmgnamaaDoor
open Go.ChangeShapes Go.WideShapes Go.ChangeAt Go.RowKit
set_option linter.unusedSimpArgs false
set_option linter.unusedVariables false
set_option maxHeartbeats 8000000 in
set_option maxRecDepth 100000 in
theorem szOutcome_ok (w : World) (c : Int) (ao : Option Addr) (cap : Nat) (ts : List ByteArray) (l : Int) (hA : StA w ao ts) (hF : FitT ts) (h0 : 0 ≤ l) (h1 : l ≤ 1048576) :
    Calls Tryd.prog 16 #[.agg #[.int .i64 c, .slice ao ts.length cap], .int .i64 l] w fun e w' => e = .returned (.int .i64 (leftT l (blkT ts))) ∧ Kept w w' := by
  have k0 : Kept w (w.alloc (.cells #[.int .i64 c, .slice ao ts.length cap] 44)) := Kept.alloc (Below.refl _ _) _
  have hC := szStringS_ok _ ao cap ts l (hA.kept k0) hF h0 h1
  clear hA hF
  by_cases hb : ((blkT ts : Nat) : Int) ≤ l
  · rw [show leftT l (blkT ts) = l - ((blkT ts : Nat) : Int) from if_pos hb] at hC ⊢
    obtain ⟨r, hr⟩ : ∃ r, l - ((blkT ts : Nat) : Int) = r := ⟨_, rfl⟩
    rw [hr] at hC ⊢
    have hd : decide (r < 0) = false := decide_eq_false (by omega)
    clear hr hb h0 h1
    go_enter Tryd.func16, Tryd.ntmps16
    go_wp2_with (go_at_call 39; refine hC.mono ?_; rintro e w1 ⟨rfl, rfl⟩)
    go_ret
    exact ⟨rfl, k0⟩
  · rw [show leftT l (blkT ts) = -1 from if_neg hb] at hC ⊢
    clear hb h0 h1
    go_enter Tryd.func16, Tryd.ntmps16
    go_wp2_with (go_at_call 39; refine hC.mono ?_; rintro e w1 ⟨rfl, rfl⟩)
    go_ret
    exact ⟨rfl, k0⟩
set_option maxHeartbeats 8000000 in
set_option maxRecDepth 100000 in
theorem toOutcome_ok (w : World) (c : Int) (ao : Option Addr) (cap : Nat) (ts : List ByteArray) (hA : StA w ao ts) (hl : ts.length ≤ 1048576) :
    Calls Tryd.prog 18 #[.agg #[.int .i64 c, .slice ao ts.length cap]] w fun e w' => ∃ g, e = .returned (.agg #[.int .i64 c, .slice (some ⟨g, 0, none⟩) ts.length ts.length]) ∧ w.heap.size ≤ g ∧ StA w' (some ⟨g, 0, none⟩) ts ∧ Kept w w' := by
  have k3 : Kept w (((w.alloc (.cells #[.int .i64 c, .slice ao ts.length cap] 44)).alloc (.cells #[.int .i64 0, .slice none 0 0] 47)).alloc (.cells #[.int .i64 c, .slice none 0 0] 47)) := ((Kept.alloc (Below.refl _ _) _).alloc _).alloc _
  have y1 := (Cells.new (w.alloc (.cells #[.int .i64 c, .slice ao ts.length cap] 44)) 47 #[.int .i64 0, .slice none 0 0]).alloc (.cells #[.int .i64 c, .slice none 0 0] 47)
  have y2 := Cells.new ((w.alloc (.cells #[.int .i64 c, .slice ao ts.length cap] 44)).alloc (.cells #[.int .i64 0, .slice none 0 0] 47)) 47 #[.int .i64 c, .slice none 0 0]
  have hs3 : (((w.alloc (.cells #[.int .i64 c, .slice ao ts.length cap] 44)).alloc (.cells #[.int .i64 0, .slice none 0 0] 47)).alloc (.cells #[.int .i64 c, .slice none 0 0] 47)).heap.size = w.heap.size + 3 := by simp
  simp only [World.size_alloc] at y1 y2
  have hC := toStringS_ok _ ao cap ts (hA.kept k3) hl
  rw [hs3] at hC
  clear hA hl
  go_enter Tryd.func18, Tryd.ntmps18
  go_wp2_with fail
  refine hC.mono ?_
  rintro e w1 ⟨rfl, hN, hk1⟩
  have x1 := y1.kept hk1
  have x2 := y2.kept hk1
  have c0 := x2.cell 0; have c1 := x2.cell 1; have f0 := x2.frozen 0; have f1 := x2.frozen 1; have l2 := x2.lt
  have d0 := x1.cell 0; have d1 := x1.cell 1; have g0 := x1.frozen 0; have g1 := x1.frozen 1; have l1 := x1.lt
  have HN : Hid _ := hN
  clear hC y1 y2 hN
  go_wp2_with fail
  have z := ((x1.other (p := ⟨w.heap.size + 1 + 1, 1, none⟩) (by simp) (.slice (some ⟨w.heap.size + 3, 0, none⟩) ts.length ts.length)).set 0 (.int .i64 c)).set 1 (.slice (some ⟨w.heap.size + 3, 0, none⟩) ts.length ts.length)
  have z0 := z.cell 0
  have z1 := z.cell 1
  refine bodyPost_ret (v := .agg #[.int .i64 c, .slice (some ⟨w.heap.size + 3, 0, none⟩) ts.length ts.length]) (by simp [results, Tryd.results18, go_sem, z0, z1]) rfl ⟨_, rfl, by omega, StA.other (StA.other (StA.other HN.out (by omega)) (by omega)) (by omega), (((k3.trans hk1).set (by simp; omega) _).set (by simp) _).set (by simp) _⟩
set_option maxHeartbeats 8000000 in
set_option maxRecDepth 100000 in
theorem eqOutcome_ok (w : World) (c : Int) (ao bo : Option Addr) (ca cb : Nat) (ts : List ByteArray) (hA : StA w ao ts) (hB : StA w bo ts) (hl : ts.length ≤ 1048576) :
    Calls Tryd.prog 20 #[.agg #[.int .i64 c, .slice ao ts.length ca], .agg #[.int .i64 c, .slice bo ts.length cb]] w fun e w' => e = .returned (.bool true) ∧ Kept w w' := by
  have hk : Kept w ((w.alloc (.cells #[.int .i64 c, .slice ao ts.length ca] 47)).alloc (.cells #[.int .i64 c, .slice bo ts.length cb] 47)) := (Kept.alloc (Below.refl _ w) _).alloc _
  have hC := eqStrS_ok _ ao bo ca cb ts (hA.kept hk) (hB.kept hk) hl
  have hcc : (c != c) = false := by simp
  clear hA hB
  go_enter Tryd.func20, Tryd.ntmps20
  go_wp2_with (go_at_call 42; refine hC.mono ?_; rintro e w1 ⟨rfl, hK⟩)
  go_ret
  exact ⟨rfl, hk.trans hK⟩
theorem laid : laidOutB Tryd.prog = true := by kernel_rfl
theorem cellsOutc : Tryd.prog.cellsOf 44 = 2 := by kernel_rfl
theorem cellsIntO : Tryd.prog.cellsOf 3 = 1 := by kernel_rfl
set_option maxRecDepth 100000 in
theorem open_outcome {H : Type} {enc : TypeId × Value → H} {W : World} {base : Nat} {v : Value} {d : DataW H} {p : List MemPlace} (hv : Value.okWide Tryd.prog W .any base 44 v) (h : DataW.Trod enc Tryd.prog W 0 (fun _ => true) true 44 v d p) :
    ∃ (c : Int) (ao : Option Addr) (cap : Nat) (ts : List ByteArray), v = .agg #[.int .i64 c, .slice ao ts.length cap] ∧ FitT ts ∧ StA W ao ts := by
  obtain ⟨cs, rfl, hsz⟩ := okWide_struct Tryd.underlying44 hv
  obtain ⟨c0, c1, rfl⟩ : ∃ c0 c1, cs = #[c0, c1] := by
    have h1 : cs.size = 2 := hsz.trans cellsOutc
    obtain ⟨l⟩ := cs
    match l, h1 with
    | [c0, c1], _ => exact ⟨c0, c1, rfl⟩
  obtain ⟨fuel, hf⟩ := h
  obtain ⟨xs, n, _, _, hl, hlen, hff⟩ := DataW.trod_struct Tryd.underlying44 hf
  obtain ⟨y0, y1, rfl⟩ : ∃ y0 y1, xs = [y0, y1] := by
    match xs, hlen with
    | [y0, y1], _ => exact ⟨y0, y1, rfl⟩
  have h0 : DataW.trod enc Tryd.prog W 0 (fun _ => true) true n 3 [c0] = some y0 := by simpa [Value.cells, cellsIntO] using hff 0 _ rfl
  have h1 : DataW.trod enc Tryd.prog W 0 (fun _ => true) true n 42 [c1] = some y1 := by simpa [Value.cells, cellsStrsF] using hff 1 _ rfl
  obtain ⟨c, e0, _, w0⟩ := DataW.trod_int Tryd.underlying3 h0
  obtain ⟨ao, cap, ts, rfl, hF, hS⟩ := strs_of h1
  simp at e0
  subst e0
  exact ⟨c, ao, cap, ts, rfl, hF, hS⟩
end Go.Proofs.YthmabhglmgnamaaDoor
