/-
  A machine is made (chapter 17): what is made, and twelve cells that are written one behind the other.
  A machine is made by the model (chapter 17): spec.MachineNew, what it holds.
  A machine is made by the program (chapter 17): impl.MachineNew, all of it in memory of its own.
  A machine that is made, whether there is one or not: what the laws mark of it and find again (chapter 17).
-/
import Derived.Deep.RegionWith
import Derived.Deep.CutRange
import Derived.Test.YtgempjjnfpmndaaGreatDoorZCopC
import Derived.Test.YtgempjjnfpmndaaGreatDoorGrqMx
import Derived.Test.YtgempjjnfpmndaaGreatDoorZScoD
import Derived.Test.YtgempjjnfpmndaaGreatDoorSlabX
import Derived.Test.YtgempjjnfpmndaaGreatDoorGrpUc
import Derived.Test.YtgempjjnfpmndaaGreatDoorGrpUh
namespace Go.Proofs.YtgempjjnfpmndaaGreatDoor
open Go.RowKit
set_option linter.unusedSimpArgs false
set_option linter.unusedVariables false
@[reducible] def st12 (W : World) (B : Nat) (v0 v1 v2 v3 v4 v5 v6 v7 v8 v9 v10 v11 : Value) : World := ((((((((((((W).setCell ⟨B, 0, none⟩ v0).setCell ⟨B, 1, none⟩ v1).setCell ⟨B, 2, none⟩ v2).setCell ⟨B, 3, none⟩ v3).setCell ⟨B, 4, none⟩ v4).setCell ⟨B, 5, none⟩ v5).setCell ⟨B, 6, none⟩ v6).setCell ⟨B, 7, none⟩ v7).setCell ⟨B, 8, none⟩ v8).setCell ⟨B, 9, none⟩ v9).setCell ⟨B, 10, none⟩ v10).setCell ⟨B, 11, none⟩ v11
theorem st12_cells {W : World} {B : Nat} {t : TypeId} {c0 c1 c2 c3 c4 c5 c6 c7 c8 c9 c10 c11 : Value} (v0 v1 v2 v3 v4 v5 v6 v7 v8 v9 v10 v11 : Value) (h : Cells W B t #[c0, c1, c2, c3, c4, c5, c6, c7, c8, c9, c10, c11]) : Cells (st12 W B v0 v1 v2 v3 v4 v5 v6 v7 v8 v9 v10 v11) B t #[v0, v1, v2, v3, v4, v5, v6, v7, v8, v9, v10, v11] := by
  have h0 : Cells ((W).setCell ⟨B, 0, none⟩ v0) B t #[v0, c1, c2, c3, c4, c5, c6, c7, c8, c9, c10, c11] := h.set 0 v0
  have h1 : Cells (((W).setCell ⟨B, 0, none⟩ v0).setCell ⟨B, 1, none⟩ v1) B t #[v0, v1, c2, c3, c4, c5, c6, c7, c8, c9, c10, c11] := h0.set 1 v1
  have h2 : Cells ((((W).setCell ⟨B, 0, none⟩ v0).setCell ⟨B, 1, none⟩ v1).setCell ⟨B, 2, none⟩ v2) B t #[v0, v1, v2, c3, c4, c5, c6, c7, c8, c9, c10, c11] := h1.set 2 v2
  have h3 : Cells (((((W).setCell ⟨B, 0, none⟩ v0).setCell ⟨B, 1, none⟩ v1).setCell ⟨B, 2, none⟩ v2).setCell ⟨B, 3, none⟩ v3) B t #[v0, v1, v2, v3, c4, c5, c6, c7, c8, c9, c10, c11] := h2.set 3 v3
  have h4 : Cells ((((((W).setCell ⟨B, 0, none⟩ v0).setCell ⟨B, 1, none⟩ v1).setCell ⟨B, 2, none⟩ v2).setCell ⟨B, 3, none⟩ v3).setCell ⟨B, 4, none⟩ v4) B t #[v0, v1, v2, v3, v4, c5, c6, c7, c8, c9, c10, c11] := h3.set 4 v4
  have h5 : Cells (((((((W).setCell ⟨B, 0, none⟩ v0).setCell ⟨B, 1, none⟩ v1).setCell ⟨B, 2, none⟩ v2).setCell ⟨B, 3, none⟩ v3).setCell ⟨B, 4, none⟩ v4).setCell ⟨B, 5, none⟩ v5) B t #[v0, v1, v2, v3, v4, v5, c6, c7, c8, c9, c10, c11] := h4.set 5 v5
  have h6 : Cells ((((((((W).setCell ⟨B, 0, none⟩ v0).setCell ⟨B, 1, none⟩ v1).setCell ⟨B, 2, none⟩ v2).setCell ⟨B, 3, none⟩ v3).setCell ⟨B, 4, none⟩ v4).setCell ⟨B, 5, none⟩ v5).setCell ⟨B, 6, none⟩ v6) B t #[v0, v1, v2, v3, v4, v5, v6, c7, c8, c9, c10, c11] := h5.set 6 v6
  have h7 : Cells (((((((((W).setCell ⟨B, 0, none⟩ v0).setCell ⟨B, 1, none⟩ v1).setCell ⟨B, 2, none⟩ v2).setCell ⟨B, 3, none⟩ v3).setCell ⟨B, 4, none⟩ v4).setCell ⟨B, 5, none⟩ v5).setCell ⟨B, 6, none⟩ v6).setCell ⟨B, 7, none⟩ v7) B t #[v0, v1, v2, v3, v4, v5, v6, v7, c8, c9, c10, c11] := h6.set 7 v7
  have h8 : Cells ((((((((((W).setCell ⟨B, 0, none⟩ v0).setCell ⟨B, 1, none⟩ v1).setCell ⟨B, 2, none⟩ v2).setCell ⟨B, 3, none⟩ v3).setCell ⟨B, 4, none⟩ v4).setCell ⟨B, 5, none⟩ v5).setCell ⟨B, 6, none⟩ v6).setCell ⟨B, 7, none⟩ v7).setCell ⟨B, 8, none⟩ v8) B t #[v0, v1, v2, v3, v4, v5, v6, v7, v8, c9, c10, c11] := h7.set 8 v8
  have h9 : Cells (((((((((((W).setCell ⟨B, 0, none⟩ v0).setCell ⟨B, 1, none⟩ v1).setCell ⟨B, 2, none⟩ v2).setCell ⟨B, 3, none⟩ v3).setCell ⟨B, 4, none⟩ v4).setCell ⟨B, 5, none⟩ v5).setCell ⟨B, 6, none⟩ v6).setCell ⟨B, 7, none⟩ v7).setCell ⟨B, 8, none⟩ v8).setCell ⟨B, 9, none⟩ v9) B t #[v0, v1, v2, v3, v4, v5, v6, v7, v8, v9, c10, c11] := h8.set 9 v9
  have h10 : Cells ((((((((((((W).setCell ⟨B, 0, none⟩ v0).setCell ⟨B, 1, none⟩ v1).setCell ⟨B, 2, none⟩ v2).setCell ⟨B, 3, none⟩ v3).setCell ⟨B, 4, none⟩ v4).setCell ⟨B, 5, none⟩ v5).setCell ⟨B, 6, none⟩ v6).setCell ⟨B, 7, none⟩ v7).setCell ⟨B, 8, none⟩ v8).setCell ⟨B, 9, none⟩ v9).setCell ⟨B, 10, none⟩ v10) B t #[v0, v1, v2, v3, v4, v5, v6, v7, v8, v9, v10, c11] := h9.set 10 v10
  have h11 : Cells (((((((((((((W).setCell ⟨B, 0, none⟩ v0).setCell ⟨B, 1, none⟩ v1).setCell ⟨B, 2, none⟩ v2).setCell ⟨B, 3, none⟩ v3).setCell ⟨B, 4, none⟩ v4).setCell ⟨B, 5, none⟩ v5).setCell ⟨B, 6, none⟩ v6).setCell ⟨B, 7, none⟩ v7).setCell ⟨B, 8, none⟩ v8).setCell ⟨B, 9, none⟩ v9).setCell ⟨B, 10, none⟩ v10).setCell ⟨B, 11, none⟩ v11) B t #[v0, v1, v2, v3, v4, v5, v6, v7, v8, v9, v10, v11] := h10.set 11 v11
  exact h11
theorem st12_heap (W : World) (B : Nat) (v0 v1 v2 v3 v4 v5 v6 v7 v8 v9 v10 v11 : Value) {x : Nat} (hx : x ≠ B) : (st12 W B v0 v1 v2 v3 v4 v5 v6 v7 v8 v9 v10 v11).heap[x]? = W.heap[x]? := by
  have e : ∀ (U : World) i v, (U.setCell ⟨B, i, none⟩ v).heap[x]? = U.heap[x]? := fun U i v => Below.heap_setCell _ _ _ _ hx
  simp only [st12, e]
theorem st12_kept {w W : World} {B : Nat} (v0 v1 v2 v3 v4 v5 v6 v7 v8 v9 v10 v11 : Value) (h : Kept w W) (hB : w.heap.size ≤ B) : Kept w (st12 W B v0 v1 v2 v3 v4 v5 v6 v7 v8 v9 v10 v11) := by
  have e : ∀ (U : World) i v, Kept w U → Kept w (U.setCell ⟨B, i, none⟩ v) := fun U i v k => k.set hB v
  exact e _ _ _ (e _ _ _ (e _ _ _ (e _ _ _ (e _ _ _ (e _ _ _ (e _ _ _ (e _ _ _ (e _ _ _ (e _ _ _ (e _ _ _ (e _ _ _ h)))))))))))
theorem newL_blk {n : Nat} (h2 : 2 ≤ n) (hn : n ≤ 2000) : slabOk (newL n) = true ∧ raw (blocks (newL n)) = [⟨0, n, 0⟩] := by
  have e : hz (newL n) 0 = 8 * (n : Int) + ((0 : Nat) : Int) := by rw [newL, hz_set (by simp; omega)]; simp
  have hs : Seg (newL n) 0 [⟨0, n, 0⟩] (0 + n) := Seg.one (by rw [newL_len]; omega) h2 (by omega) e
  have hs' : Seg (newL n) 0 [⟨0, n, 0⟩] (newL n).length := by rw [newL_len]; simpa using hs
  exact hs'.slab (by rw [newL_len]; exact hn)
theorem newL_heap {n : Nat} (h2 : 2 ≤ n) (hn : n ≤ 2000) : heapR (newL n) = true := by
  obtain ⟨ok, eb⟩ := newL_blk h2 hn
  unfold heapR allB
  rw [Bool.and_eq_true, List.all_eq_true]
  refine ⟨ok, fun b hb => ?_⟩
  have hm : b.1 ∈ raw (blocks (newL n)) := List.mem_map.2 ⟨b, hb, rfl⟩
  rw [eb] at hm
  simp only [List.mem_singleton] at hm
  rw [hm]
  unfold blkR wordsR
  rw [Bool.and_eq_true, List.all_eq_true]
  refine ⟨rfl, fun i hi => ?_⟩
  have e : roleOf 0 (hz (newL n) (0 + 1)) (i : Nat) = 0 := by simp [roleOf]
  rw [e]
  simp [wordR]
/-- The variables of the first code. -/
def varsO (cs : List Cod) : Nat := match cs[0]? with
  | some c => c.v.toNat
  | none => 0
theorem vars_of {cs : List Cod} {ts : List ByteArray} (h : unitR cs ts = true) : ∃ c, cs[0]? = some c ∧ c.v = ((varsO cs : Nat) : Int) ∧ varsO cs ≤ 12 := by
  unfold unitR at h
  simp only [Bool.and_eq_true, decide_eq_true_eq, List.all_eq_true] at h
  obtain ⟨⟨h1, _⟩, _, h3⟩ := h
  have hc : cs[0]? = some cs[0] := List.getElem?_eq_getElem (by omega)
  have hd := h3 cs[0] (List.getElem_mem _)
  unfold codR headR at hd
  simp only [Bool.and_eq_true, decide_eq_true_eq] at hd
  have e : varsO cs = cs[0].v.toNat := by unfold varsO; rw [hc]
  exact ⟨_, hc, by rw [e]; omega, by rw [e]; omega⟩
/-- What becomes of the slab, and whether there is room for the first scope. -/
def newS (cs : List Cod) (n : Nat) : List Int × Int × Bool := scoC (newL n) 0 (varsO cs)
/-- Whether a machine is made. -/
def newO (cs : List Cod) (ts : List ByteArray) (n : Int) : Bool := decide (2 ≤ n ∧ n ≤ 2000) && (unitR cs ts && (newS cs n.toNat).2.2)
theorem scopeNew_of {cs : List Cod} {ts : List ByteArray} {n : Nat} (h2 : 2 ≤ n) (hn : n ≤ 2000) (hu : unitR cs ts = true) : scopeNewC (newL n) 0 ((varsO cs : Nat) : Int) = newS cs n := by
  obtain ⟨c, _, _, hv⟩ := vars_of hu
  have hr : rootsR (newL n) [0] = true := by
    rw [roots1, newL_heap h2 hn]
    rfl
  unfold scopeNewC newS
  rw [hr, if_pos (by simp; omega)]
  simp
end Go.Proofs.YtgempjjnfpmndaaGreatDoor
namespace Go.Proofs.YtgempjjnfpmndaaGreatDoor
open Go.RowKit
set_option linter.unusedSimpArgs false
set_option linter.unusedVariables false
/-- What is made. -/
def newM (cs : List Cod) (ts : List ByteArray) (n : Int) : Mch := if newO cs ts n then resM cs ts (newS cs n.toNat).1 [(0, 0, (newS cs n.toNat).2.1)] else resM [] [] [] []
@[reducible] def zeroH : MchH := ⟨none, 0, none, 0, none, 0, none, 0, none, 0, none, 0, none, 0, none, 0⟩
theorem zeroA (W : World) : MchA W zeroH (resM [] [] [] []) := by
  refine ⟨fun j c hc => by simp at hc, fun j c hc => by simp at hc, ?_, ?_, ?_, fun j c hc => by simp at hc, ?_, fun j c hc => by simp at hc⟩
  all_goals exact ⟨by simp, .inl rfl⟩
set_option maxHeartbeats 16000000 in
set_option maxRecDepth 100000 in
theorem spec_MachineNew_ok (w : World) (g h : Nat) (cs : List Cod) (ts : List ByteArray) (n : Int) (hnw : (Lit.int .i64 n).wf = true) (hC : CodX w g cs) (hT : RowT w h ts ts.length) (hl : cs.length ≤ 1048576) (hi : ∀ c ∈ cs, c.ss.length ≤ 1048576) (ht : ts.length ≤ 1048576) :
    Calls Tryz.prog 14 #[.agg #[slB g cs.length cs.length, slB h ts.length ts.length], .int .i64 n] w fun e w' => ∃ h', e = .returned (.tuple #[.agg (mchC h' (newM cs ts n)), .bool (newO cs ts n)]) ∧ MchA w' h' (newM cs ts n) ∧ Kept w w' := by
  obtain ⟨W0, hW0⟩ : ∃ W0, (w.alloc (.cells #[slB g cs.length cs.length, slB h ts.length ts.length] 38)).alloc (.cells zeroC 43) = W0 := ⟨_, rfl⟩
  have k0 : Kept w W0 := hW0 ▸ (Kept.alloc (Below.refl _ _) _).alloc _
  have X1 : Cells W0 w.heap.size 38 #[slB g cs.length cs.length, slB h ts.length ts.length] := hW0 ▸ (Cells.new w 38 #[slB g cs.length cs.length, slB h ts.length ts.length]).alloc _
  have X2 : Cells W0 (w.heap.size + 1) 43 zeroC := by
    have := Cells.new (w.alloc (.cells #[slB g cs.length cs.length, slB h ts.length ts.length] 38)) 43 zeroC
    simp only [World.size_alloc] at this
    exact hW0 ▸ this
  have hs0 : W0.heap.size = w.heap.size + 2 := by rw [← hW0]; simp
  have HUn : Hid (∀ u, Kept w u → Calls Tryz.prog 49 #[.agg #[slB g cs.length cs.length, slB h ts.length ts.length]] u fun e w' => e = .returned (.bool (unitR cs ts)) ∧ Kept u w') := fun u hu => spec_UnitOk_ok u _ _ _ _ cs ts ((CodX.codsO hC).all.kept hu) (hT.done.kept hu) hl ht hi
  have HX1 : Hid (∀ u, Kept W0 u → Cells u w.heap.size 38 #[slB g cs.length cs.length, slB h ts.length ts.length]) := fun u hu => X1.kept hu
  have HX2 : Hid (∀ u, Kept W0 u → Cells u (w.heap.size + 1) 43 zeroC) := fun u hu => X2.kept hu
  have HK0 : Hid (Kept w W0) := k0
  have HS0 : Hid (W0.heap.size = w.heap.size + 2) := hs0
  obtain ⟨nc, hnc⟩ : ∃ y, cs.length = y := ⟨_, rfl⟩
  obtain ⟨nt, hnt⟩ : ∃ y, ts.length = y := ⟨_, rfl⟩
  rw [hnc, hnt] at HUn HX1
  rw [hnc, hnt] at hW0 ⊢
  by_cases hr : 2 ≤ n ∧ n ≤ 2000
  rotate_left
  · have hN := spec_SlabNew_no W0 n (by omega)
    have HE : Hid (newO cs ts n = false) := by rw [Hid]; unfold newO; rw [decide_eq_false hr]; rfl
    clear k0 X1 X2 hs0 hC hT HUn hr
    go_enter Tryz.func14, Tryz.ntmps14
    go_upto_region 1 with (fail)
    try simp only [hW0]
    clear hW0
    go_wp2_with fail
    refine hN.mono ?_
    rintro e w1 ⟨rfl, k1⟩
    clear hN
    go_upto_region 2 with (fail)
    obtain ⟨W1, hW1⟩ : ∃ y, w1.alloc (.cells #[.slice none 0 0] 39) = y := ⟨_, rfl⟩
    have K1 : Kept W0 W1 := hW1 ▸ Kept.alloc k1 _
    have CX := HX2.out _ K1
    have KX : Kept w W1 := Kept.trans HK0.out K1
    try simp only [hW1]
    clear hW1
    obtain ⟨WZ, hWZ⟩ : ∃ y, st12 W1 (w.heap.size + 1) (.slice none 0 0) (.slice none 0 0) (.slice none 0 0) (.int .i64 0) (.slice none 0 0) (.slice none 0 0) (.int .i64 0) (.slice none 0 0) (.slice none 0 0) (.slice none 0 0) (.bool false) (.int .i64 0) = y := ⟨_, rfl⟩
    have CZ : Cells WZ (w.heap.size + 1) 43 zeroC := hWZ ▸ st12_cells (.slice none 0 0) (.slice none 0 0) (.slice none 0 0) (.int .i64 0) (.slice none 0 0) (.slice none 0 0) (.int .i64 0) (.slice none 0 0) (.slice none 0 0) (.slice none 0 0) (.bool false) (.int .i64 0) CX
    have KZ : Hid (Kept w WZ) := hWZ ▸ st12_kept (.slice none 0 0) (.slice none 0 0) (.slice none 0 0) (.int .i64 0) (.slice none 0 0) (.slice none 0 0) (.int .i64 0) (.slice none 0 0) (.slice none 0 0) (.slice none 0 0) (.bool false) (.int .i64 0) KX (by omega)
    have HZ : Hid (∀ y, y ≠ w.heap.size + 1 → WZ.heap[y]? = (W1).heap[y]?) := fun y hy => hWZ ▸ st12_heap _ _ (.slice none 0 0) (.slice none 0 0) (.slice none 0 0) (.int .i64 0) (.slice none 0 0) (.slice none 0 0) (.int .i64 0) (.slice none 0 0) (.slice none 0 0) (.slice none 0 0) (.bool false) (.int .i64 0) hy
    have a0 : (W1).cell? ⟨w.heap.size + 1, 0, none⟩ = some (.slice none 0 0) := CX.cell 0
    have af0 := CX.frozen 0
    have a1 : (W1).cell? ⟨w.heap.size + 1, 1, none⟩ = some (.slice none 0 0) := CX.cell 1
    have af1 := CX.frozen 1
    have a2 : (W1).cell? ⟨w.heap.size + 1, 2, none⟩ = some (.slice none 0 0) := CX.cell 2
    have af2 := CX.frozen 2
    have a3 : (W1).cell? ⟨w.heap.size + 1, 3, none⟩ = some (.int .i64 0) := CX.cell 3
    have af3 := CX.frozen 3
    have a4 : (W1).cell? ⟨w.heap.size + 1, 4, none⟩ = some (.slice none 0 0) := CX.cell 4
    have af4 := CX.frozen 4
    have a5 : (W1).cell? ⟨w.heap.size + 1, 5, none⟩ = some (.slice none 0 0) := CX.cell 5
    have af5 := CX.frozen 5
    have a6 : (W1).cell? ⟨w.heap.size + 1, 6, none⟩ = some (.int .i64 0) := CX.cell 6
    have af6 := CX.frozen 6
    have a7 : (W1).cell? ⟨w.heap.size + 1, 7, none⟩ = some (.slice none 0 0) := CX.cell 7
    have af7 := CX.frozen 7
    have a8 : (W1).cell? ⟨w.heap.size + 1, 8, none⟩ = some (.slice none 0 0) := CX.cell 8
    have af8 := CX.frozen 8
    have a9 : (W1).cell? ⟨w.heap.size + 1, 9, none⟩ = some (.slice none 0 0) := CX.cell 9
    have af9 := CX.frozen 9
    have a10 : (W1).cell? ⟨w.heap.size + 1, 10, none⟩ = some (.bool false) := CX.cell 10
    have af10 := CX.frozen 10
    have a11 : (W1).cell? ⟨w.heap.size + 1, 11, none⟩ = some (.int .i64 0) := CX.cell 11
    have af11 := CX.frozen 11
    simp only [st12] at hWZ
    go_wp2_with fail
    try simp only [hWZ]
    have z0 : (WZ).cell? ⟨w.heap.size + 1, 0, none⟩ = some (.slice none 0 0) := CZ.cell 0
    have z1 : (WZ).cell? ⟨w.heap.size + 1, 1, none⟩ = some (.slice none 0 0) := CZ.cell 1
    have z2 : (WZ).cell? ⟨w.heap.size + 1, 2, none⟩ = some (.slice none 0 0) := CZ.cell 2
    have z3 : (WZ).cell? ⟨w.heap.size + 1, 3, none⟩ = some (.int .i64 0) := CZ.cell 3
    have z4 : (WZ).cell? ⟨w.heap.size + 1, 4, none⟩ = some (.slice none 0 0) := CZ.cell 4
    have z5 : (WZ).cell? ⟨w.heap.size + 1, 5, none⟩ = some (.slice none 0 0) := CZ.cell 5
    have z6 : (WZ).cell? ⟨w.heap.size + 1, 6, none⟩ = some (.int .i64 0) := CZ.cell 6
    have z7 : (WZ).cell? ⟨w.heap.size + 1, 7, none⟩ = some (.slice none 0 0) := CZ.cell 7
    have z8 : (WZ).cell? ⟨w.heap.size + 1, 8, none⟩ = some (.slice none 0 0) := CZ.cell 8
    have z9 : (WZ).cell? ⟨w.heap.size + 1, 9, none⟩ = some (.slice none 0 0) := CZ.cell 9
    have z10 : (WZ).cell? ⟨w.heap.size + 1, 10, none⟩ = some (.bool false) := CZ.cell 10
    have z11 : (WZ).cell? ⟨w.heap.size + 1, 11, none⟩ = some (.int .i64 0) := CZ.cell 11
    refine bodyPost_ret (v := .tuple #[.agg zeroC, .bool false]) (by simp [results, Tryz.results14, go_sem, z0, z1, z2, z3, z4, z5, z6, z7, z8, z9, z10, z11]) rfl ?_
    refine ⟨zeroH, by rw [newM, HE.out]; rfl, ?_, KZ.out⟩
    rw [newM, HE.out]
    exact zeroA _
  · obtain ⟨N, rfl⟩ : ∃ N : Nat, n = N := ⟨n.toNat, by omega⟩
    have hN2 : 2 ≤ N := by omega
    have hN3 : N ≤ 2000 := by omega
    have hN := spec_SlabNew_yes W0 N hN2 hN3
    cases hu : unitR cs ts
    · have HE : Hid (newO cs ts (N : Int) = false) := by rw [Hid]; unfold newO; rw [hu]; simp
      rw [hu] at HUn
      have b0' := X1.cell 0
      clear k0 X1 X2 hs0 hC hT hu b0'
      go_enter Tryz.func14, Tryz.ntmps14
      go_upto_region 1 with (fail)
      try simp only [hW0]
      clear hW0
      go_wp2_with fail
      refine hN.mono ?_
      rintro e w1 ⟨g2, rfl, hg2, hR2, k1, hSz⟩
      clear hN
      go_upto_region 2 with (fail)
      obtain ⟨W1, hW1⟩ : ∃ y, w1.alloc (.cells #[slB g2 N N] 39) = y := ⟨_, rfl⟩
      have K1 : Kept W0 W1 := hW1 ▸ Kept.alloc k1 _
      have b0 := (HX1.out _ K1).cell 0
      have b1 := (HX1.out _ K1).cell 1
      have hU := HUn.out W1 (Kept.trans HK0.out K1)
      try simp only [hW1]
      clear hW1
      go_wp2_with fail
      refine hU.mono ?_
      rintro e w2 ⟨rfl, k2⟩
      have K2 : Kept W0 w2 := K1.trans k2
      have CX := HX2.out _ K2
      have KX : Kept w w2 := Kept.trans HK0.out K2
      clear hU b0 b1
      obtain ⟨WZ, hWZ⟩ : ∃ y, st12 w2 (w.heap.size + 1) (.slice none 0 0) (.slice none 0 0) (.slice none 0 0) (.int .i64 0) (.slice none 0 0) (.slice none 0 0) (.int .i64 0) (.slice none 0 0) (.slice none 0 0) (.slice none 0 0) (.bool false) (.int .i64 0) = y := ⟨_, rfl⟩
      have CZ : Cells WZ (w.heap.size + 1) 43 zeroC := hWZ ▸ st12_cells (.slice none 0 0) (.slice none 0 0) (.slice none 0 0) (.int .i64 0) (.slice none 0 0) (.slice none 0 0) (.int .i64 0) (.slice none 0 0) (.slice none 0 0) (.slice none 0 0) (.bool false) (.int .i64 0) CX
      have KZ : Hid (Kept w WZ) := hWZ ▸ st12_kept (.slice none 0 0) (.slice none 0 0) (.slice none 0 0) (.int .i64 0) (.slice none 0 0) (.slice none 0 0) (.int .i64 0) (.slice none 0 0) (.slice none 0 0) (.slice none 0 0) (.bool false) (.int .i64 0) KX (by omega)
      have HZ : Hid (∀ y, y ≠ w.heap.size + 1 → WZ.heap[y]? = (w2).heap[y]?) := fun y hy => hWZ ▸ st12_heap _ _ (.slice none 0 0) (.slice none 0 0) (.slice none 0 0) (.int .i64 0) (.slice none 0 0) (.slice none 0 0) (.int .i64 0) (.slice none 0 0) (.slice none 0 0) (.slice none 0 0) (.bool false) (.int .i64 0) hy
      have a0 : (w2).cell? ⟨w.heap.size + 1, 0, none⟩ = some (.slice none 0 0) := CX.cell 0
      have af0 := CX.frozen 0
      have a1 : (w2).cell? ⟨w.heap.size + 1, 1, none⟩ = some (.slice none 0 0) := CX.cell 1
      have af1 := CX.frozen 1
      have a2 : (w2).cell? ⟨w.heap.size + 1, 2, none⟩ = some (.slice none 0 0) := CX.cell 2
      have af2 := CX.frozen 2
      have a3 : (w2).cell? ⟨w.heap.size + 1, 3, none⟩ = some (.int .i64 0) := CX.cell 3
      have af3 := CX.frozen 3
      have a4 : (w2).cell? ⟨w.heap.size + 1, 4, none⟩ = some (.slice none 0 0) := CX.cell 4
      have af4 := CX.frozen 4
      have a5 : (w2).cell? ⟨w.heap.size + 1, 5, none⟩ = some (.slice none 0 0) := CX.cell 5
      have af5 := CX.frozen 5
      have a6 : (w2).cell? ⟨w.heap.size + 1, 6, none⟩ = some (.int .i64 0) := CX.cell 6
      have af6 := CX.frozen 6
      have a7 : (w2).cell? ⟨w.heap.size + 1, 7, none⟩ = some (.slice none 0 0) := CX.cell 7
      have af7 := CX.frozen 7
      have a8 : (w2).cell? ⟨w.heap.size + 1, 8, none⟩ = some (.slice none 0 0) := CX.cell 8
      have af8 := CX.frozen 8
      have a9 : (w2).cell? ⟨w.heap.size + 1, 9, none⟩ = some (.slice none 0 0) := CX.cell 9
      have af9 := CX.frozen 9
      have a10 : (w2).cell? ⟨w.heap.size + 1, 10, none⟩ = some (.bool false) := CX.cell 10
      have af10 := CX.frozen 10
      have a11 : (w2).cell? ⟨w.heap.size + 1, 11, none⟩ = some (.int .i64 0) := CX.cell 11
      have af11 := CX.frozen 11
      simp only [st12] at hWZ
      go_wp2_with fail
      try simp only [hWZ]
      have z0 : (WZ).cell? ⟨w.heap.size + 1, 0, none⟩ = some (.slice none 0 0) := CZ.cell 0
      have z1 : (WZ).cell? ⟨w.heap.size + 1, 1, none⟩ = some (.slice none 0 0) := CZ.cell 1
      have z2 : (WZ).cell? ⟨w.heap.size + 1, 2, none⟩ = some (.slice none 0 0) := CZ.cell 2
      have z3 : (WZ).cell? ⟨w.heap.size + 1, 3, none⟩ = some (.int .i64 0) := CZ.cell 3
      have z4 : (WZ).cell? ⟨w.heap.size + 1, 4, none⟩ = some (.slice none 0 0) := CZ.cell 4
      have z5 : (WZ).cell? ⟨w.heap.size + 1, 5, none⟩ = some (.slice none 0 0) := CZ.cell 5
      have z6 : (WZ).cell? ⟨w.heap.size + 1, 6, none⟩ = some (.int .i64 0) := CZ.cell 6
      have z7 : (WZ).cell? ⟨w.heap.size + 1, 7, none⟩ = some (.slice none 0 0) := CZ.cell 7
      have z8 : (WZ).cell? ⟨w.heap.size + 1, 8, none⟩ = some (.slice none 0 0) := CZ.cell 8
      have z9 : (WZ).cell? ⟨w.heap.size + 1, 9, none⟩ = some (.slice none 0 0) := CZ.cell 9
      have z10 : (WZ).cell? ⟨w.heap.size + 1, 10, none⟩ = some (.bool false) := CZ.cell 10
      have z11 : (WZ).cell? ⟨w.heap.size + 1, 11, none⟩ = some (.int .i64 0) := CZ.cell 11
      refine bodyPost_ret (v := .tuple #[.agg zeroC, .bool false]) (by simp [results, Tryz.results14, go_sem, z0, z1, z2, z3, z4, z5, z6, z7, z8, z9, z10, z11]) rfl ?_
      refine ⟨zeroH, by rw [newM, HE.out]; rfl, ?_, KZ.out⟩
      rw [newM, HE.out]
      exact zeroA _
    · obtain ⟨c, hc0, hcv, hv12⟩ := vars_of hu
      have hO : newO cs ts (N : Int) = (newS cs N).2.2 := by unfold newO; rw [hu, decide_eq_true ⟨by omega, by omega⟩]; simp
      rw [hu] at HUn
      have hV : w.cell? ⟨g, 1, none⟩ = some (.int .i64 (varsO cs : Nat)) := by
        obtain ⟨vs, h1, h2, h3⟩ := hC
        obtain ⟨x, _, _, e1, _, _⟩ := h3 0 c (List.getElem?_eq_some_iff.1 hc0).1 hc0
        rw [h1.cell, ← hcv]
        exact e1
      obtain ⟨V, hVV⟩ : ∃ y, varsO cs = y := ⟨_, rfl⟩
      have hnc1 : 1 ≤ nc := by have := (List.getElem?_eq_some_iff.1 hc0).1; omega
      rw [hVV] at hV hv12
      have HV : Hid (∀ u, Kept w u → u.cell? ⟨g, 1, none⟩ = some (.int .i64 (V : Nat))) := fun u hu' => cellK hu' hV
      have hS : newS cs N = scoC (newL N) 0 V := by unfold newS; rw [hVV]
      obtain ⟨R, hRR⟩ : ∃ y, newS cs N = y := ⟨_, rfl⟩
      rw [hRR] at hO hS
      have hRl : R.1.length = N := by rw [hS, scoC_len, newL_len]
      have HR : Hid (newO cs ts (N : Int) = R.2.2 ∧ newS cs N = R ∧ R.1.length = N) := ⟨hO, hRR, hRl⟩
      have HL6 : Hid (∀ u g2, Row u g2 (newL N) → Calls Tryz.prog 50 #[.agg #[slB g2 N N], .int .i64 0, .int .i64 (V : Nat)] u fun e w' => e = .returned (.tuple #[.agg #[slB g2 N N], .int .i64 R.2.1, .bool R.2.2]) ∧ Row w' g2 R.1 ∧ u.grownBy w' (some g2)) := fun u g2 hr' => by
        have := l6New_ok u g2 N (newL N) 0 V hr' (by rw [newL_len]; omega) (newL_blk hN2 hN3).1 (by omega) (by omega)
        rw [newL_len, ← hS] at this
        exact this.mono (fun e w' ⟨a, b, c⟩ => ⟨a, b, c.1⟩)
      have HLU : Hid (∀ u, Kept w u → Calls Tryz.prog 51 #[.agg #[slB g nc nc, slB h nt nt]] u fun e w' => ∃ ca cc ta tc, e = .returned (.agg #[.slice ca nc cc, .slice ta nt tc]) ∧ (∀ W', Fro u.heap.size w' W' → CodsA W' ca cs ∧ StA W' ta ts) ∧ Kept u w') := fun u hu' => by
        have := l17Unit_ok u g h cs ts (CodX.kept hC hu') (hT.on hu').done hl hi ht
        rw [hnc, hnt] at this
        exact this
      have HNN : Hid (cs.length = nc ∧ ts.length = nt) := ⟨hnc, hnt⟩
      clear k0 X1 X2 hs0 hC hT hu hO hS hRR hRl hV hVV hc0 hcv hnc hnt
      go_enter Tryz.func14, Tryz.ntmps14
      go_upto_region 1 with (fail)
      try simp only [hW0]
      clear hW0
      go_wp2_with fail
      refine hN.mono ?_
      rintro e w1 ⟨g2, rfl, hg2, hR2, k1, hSz⟩
      clear hN hSz
      go_upto_region 2 with (fail)
      obtain ⟨W1, hW1⟩ : ∃ y, w1.alloc (.cells #[slB g2 N N] 39) = y := ⟨_, rfl⟩
      obtain ⟨B6, hB6⟩ : ∃ y, w1.heap.size = y := ⟨_, rfl⟩
      have C6 : Cells W1 B6 39 #[slB g2 N N] := hB6 ▸ hW1 ▸ Cells.new w1 _ _
      have R1 : Row W1 g2 (newL N) := hR2.kept (hW1 ▸ Kept.alloc (Below.refl _ _) _)
      have K1 : Kept W0 W1 := hW1 ▸ Kept.alloc k1 _
      have b0 := (HX1.out _ K1).cell 0
      have b1 := (HX1.out _ K1).cell 1
      have hU := HUn.out W1 (Kept.trans HK0.out K1)
      have HG2 : Hid (w.heap.size + 2 ≤ g2 ∧ g2 < B6) := by have := HS0.out; have := hR2.lt; rw [Hid]; omega
      try simp only [hW1]
      try simp only [hB6]
      clear hW1 hB6
      go_upto_region 4 with (go_at_call 49; refine hU.mono ?_; rintro e w2 ⟨rfl, k2⟩)
      have kd : Kept w2 w2.drew := (Below.refl _ w2).drew
      have K2 : Kept W0 w2.drew := (K1.trans k2).trans kd
      have R2 : Row w2.drew g2 (newL N) := (R1.kept k2).kept kd
      have C6' := (C6.kept k2).kept kd
      have HK2 : Hid (Kept w w2.drew) := Kept.trans HK0.out K2
      have HR2 : Hid _ := R2
      have HC6 : Hid _ := C6'
      have HY1 : Hid _ := HX1.out _ K2
      have HY2 : Hid _ := HX2.out _ K2
      clear hU b0 b1 C6 R1 hR2
      have b0 := (HX1.out _ K2).cell 0
      have v0 := HV.out _ HK2.out
      have s0 := C6'.cell 0
      have ka : Kept w2.drew (w2.alloc (.cells #[.slice none 0 0] 39)).drew := (Kept.alloc (Below.refl _ w2.drew) (.cells #[.slice none 0 0] 39) : Kept w2.drew (w2.drew.alloc (.cells #[.slice none 0 0] 39)))
      have b0a : (w2.alloc (.cells #[.slice none 0 0] 39)).drew.cell? ⟨w.heap.size, 0, none⟩ = some (slB g nc nc) := cellK ka b0
      have v0a := cellK ka v0
      have s0a : (w2.alloc (.cells #[.slice none 0 0] 39)).drew.cell? ⟨B6, 0, none⟩ = some (slB g2 N N) := cellK ka s0
      have HR2a : Hid (Row (w2.alloc (.cells #[.slice none 0 0] 39)).drew g2 (newL N)) := Row.kept HR2.out ka
      have q1 : (1 : Int) ≤ (nc : Int) := by omega
      have q2 : (0 : Int) < (nc : Int) := by omega
      have HG6 : Hid (B6 < w2.drew.heap.size) := C6'.lt
      have HQ : Hid (∀ u w3, Kept w2.drew u → u.grownBy w3 (some g2) → Cells w3 (w.heap.size + 1) 43 zeroC ∧ Cells w3 w.heap.size 38 #[slB g nc nc, slB h nt nt] ∧ Kept w w3) := fun u w3 hu' hg' => by
        have hG := HG2.out
        exact ⟨Cells.grown (Cells.kept HY2.out hu') hg' (fun e => by injection e; omega), Cells.grown (Cells.kept HY1.out hu') hg' (fun e => by injection e; omega), Kept.grownRow (Kept.trans HK2.out hu') hg' (fun j ej => by injection ej; omega)⟩
      clear K2 R2 C6' k1 k2 K1
      go_cut [8, 9, 10] from 24 to 34 (fun p sc f wx => ∃ B8, p = .pointer (some ⟨B8, 0, none⟩) ∧ sc = .int .i64 R.2.1 ∧ f = .bool R.2.2 ∧ Hid (Cells wx B8 39 #[slB g2 N N]) ∧ Hid (Row wx g2 R.1) ∧ Hid (Cells wx (w.heap.size + 1) 43 zeroC) ∧ Hid (Cells wx w.heap.size 38 #[slB g nc nc, slB h nt nt]) ∧ Hid (Kept w wx) ∧ Hid (B8 ≠ g2))
      case first =>
        go_region_with (first
          | (go_at_call 50; refine (HL6.out _ _ HR2.out).mono ?_; rintro e w3 ⟨rfl, R3, G3⟩; have tok := True.intro)
          | (go_at_call 50; refine (HL6.out _ _ HR2a.out).mono ?_; rintro e w3 ⟨rfl, R3, G3⟩; have yb := Cells.grown (Cells.new w2.drew 39 #[.slice none 0 0]) G3 (fun e => by (have a1 := HG2.out); (have a2 := HG6.out); (injection e); omega); have y0 : w3.cell? ⟨w2.drew.heap.size, 0, none⟩ = some (.slice none 0 0) := yb.cell 0; have yf := yb.frozen 0; have y0' : w3.cell? ⟨w2.heap.size, 0, none⟩ = some (.slice none 0 0) := yb.cell 0; have yf' : w3.frozen? ⟨w2.heap.size, 0, none⟩ = false := yb.frozen 0))
        all_goals (
          go_wp2_with fail
          go_meet
          have hG := HG2.out
          have hG6 := HG6.out
          have hdr : w2.drew.heap.size = w2.heap.size := rfl
          first
            | (have q := HQ.out _ _ (Below.refl _ _) G3
               exact ⟨w3.heap.size, rfl, rfl, rfl, Cells.new _ _ _, R3.kept (Kept.alloc (Below.refl _ _) _), q.1.alloc _, q.2.1.alloc _, Kept.alloc q.2.2 _, by have := R3.lt; rw [Hid]; omega⟩)
            | (have q := HQ.out _ _ ka G3
               exact ⟨w2.heap.size, rfl, rfl, rfl, yb.set 0 _, R3.other (p := ⟨w2.heap.size, 0, none⟩) (by show g2 ≠ w2.heap.size; omega) _, q.1.other (p := ⟨w2.heap.size, 0, none⟩) (by show w.heap.size + 1 ≠ w2.heap.size; omega) _, q.2.1.other (p := ⟨w2.heap.size, 0, none⟩) (by show w.heap.size ≠ w2.heap.size; omega) _, q.2.2.set (by show w.heap.size ≤ w2.heap.size; omega) _, by rw [Hid]; omega⟩))
      case rest =>
      clear HR2 HR2a HC6 HY1 HY2 HQ ka b0a v0a s0a b0 v0 s0 HG6 kd HK2
      obtain ⟨B8, rfl, rfl, rfl, HC8, HR8, HY2, HY1, HK8, HN8⟩ := hcut
      cases hok : R.2.2
      · have HE : Hid (newO cs ts (N : Int) = false) := by rw [Hid, HR.out.1]; exact hok
        have hS1 := HY1.out.lt
        have CX : Cells wc (w.heap.size + 1) 43 zeroC := HY2.out
        have KX : Kept w wc := HK8.out
        obtain ⟨WZ, hWZ⟩ : ∃ y, st12 wc (w.heap.size + 1) (.slice none 0 0) (.slice none 0 0) (.slice none 0 0) (.int .i64 0) (.slice none 0 0) (.slice none 0 0) (.int .i64 0) (.slice none 0 0) (.slice none 0 0) (.slice none 0 0) (.bool false) (.int .i64 0) = y := ⟨_, rfl⟩
        have CZ : Cells WZ (w.heap.size + 1) 43 zeroC := hWZ ▸ st12_cells (.slice none 0 0) (.slice none 0 0) (.slice none 0 0) (.int .i64 0) (.slice none 0 0) (.slice none 0 0) (.int .i64 0) (.slice none 0 0) (.slice none 0 0) (.slice none 0 0) (.bool false) (.int .i64 0) CX
        have KZ : Hid (Kept w WZ) := hWZ ▸ st12_kept (.slice none 0 0) (.slice none 0 0) (.slice none 0 0) (.int .i64 0) (.slice none 0 0) (.slice none 0 0) (.int .i64 0) (.slice none 0 0) (.slice none 0 0) (.slice none 0 0) (.bool false) (.int .i64 0) KX (by omega)
        have HZ : Hid (∀ y, y ≠ w.heap.size + 1 → WZ.heap[y]? = (wc).heap[y]?) := fun y hy => hWZ ▸ st12_heap _ _ (.slice none 0 0) (.slice none 0 0) (.slice none 0 0) (.int .i64 0) (.slice none 0 0) (.slice none 0 0) (.int .i64 0) (.slice none 0 0) (.slice none 0 0) (.slice none 0 0) (.bool false) (.int .i64 0) hy
        have a0 : (wc).cell? ⟨w.heap.size + 1, 0, none⟩ = some (.slice none 0 0) := CX.cell 0
        have af0 := CX.frozen 0
        have a1 : (wc).cell? ⟨w.heap.size + 1, 1, none⟩ = some (.slice none 0 0) := CX.cell 1
        have af1 := CX.frozen 1
        have a2 : (wc).cell? ⟨w.heap.size + 1, 2, none⟩ = some (.slice none 0 0) := CX.cell 2
        have af2 := CX.frozen 2
        have a3 : (wc).cell? ⟨w.heap.size + 1, 3, none⟩ = some (.int .i64 0) := CX.cell 3
        have af3 := CX.frozen 3
        have a4 : (wc).cell? ⟨w.heap.size + 1, 4, none⟩ = some (.slice none 0 0) := CX.cell 4
        have af4 := CX.frozen 4
        have a5 : (wc).cell? ⟨w.heap.size + 1, 5, none⟩ = some (.slice none 0 0) := CX.cell 5
        have af5 := CX.frozen 5
        have a6 : (wc).cell? ⟨w.heap.size + 1, 6, none⟩ = some (.int .i64 0) := CX.cell 6
        have af6 := CX.frozen 6
        have a7 : (wc).cell? ⟨w.heap.size + 1, 7, none⟩ = some (.slice none 0 0) := CX.cell 7
        have af7 := CX.frozen 7
        have a8 : (wc).cell? ⟨w.heap.size + 1, 8, none⟩ = some (.slice none 0 0) := CX.cell 8
        have af8 := CX.frozen 8
        have a9 : (wc).cell? ⟨w.heap.size + 1, 9, none⟩ = some (.slice none 0 0) := CX.cell 9
        have af9 := CX.frozen 9
        have a10 : (wc).cell? ⟨w.heap.size + 1, 10, none⟩ = some (.bool false) := CX.cell 10
        have af10 := CX.frozen 10
        have a11 : (wc).cell? ⟨w.heap.size + 1, 11, none⟩ = some (.int .i64 0) := CX.cell 11
        have af11 := CX.frozen 11
        simp only [st12] at hWZ
        go_wp2_with fail
        try simp only [hWZ]
        have z0 : (WZ).cell? ⟨w.heap.size + 1, 0, none⟩ = some (.slice none 0 0) := CZ.cell 0
        have z1 : (WZ).cell? ⟨w.heap.size + 1, 1, none⟩ = some (.slice none 0 0) := CZ.cell 1
        have z2 : (WZ).cell? ⟨w.heap.size + 1, 2, none⟩ = some (.slice none 0 0) := CZ.cell 2
        have z3 : (WZ).cell? ⟨w.heap.size + 1, 3, none⟩ = some (.int .i64 0) := CZ.cell 3
        have z4 : (WZ).cell? ⟨w.heap.size + 1, 4, none⟩ = some (.slice none 0 0) := CZ.cell 4
        have z5 : (WZ).cell? ⟨w.heap.size + 1, 5, none⟩ = some (.slice none 0 0) := CZ.cell 5
        have z6 : (WZ).cell? ⟨w.heap.size + 1, 6, none⟩ = some (.int .i64 0) := CZ.cell 6
        have z7 : (WZ).cell? ⟨w.heap.size + 1, 7, none⟩ = some (.slice none 0 0) := CZ.cell 7
        have z8 : (WZ).cell? ⟨w.heap.size + 1, 8, none⟩ = some (.slice none 0 0) := CZ.cell 8
        have z9 : (WZ).cell? ⟨w.heap.size + 1, 9, none⟩ = some (.slice none 0 0) := CZ.cell 9
        have z10 : (WZ).cell? ⟨w.heap.size + 1, 10, none⟩ = some (.bool false) := CZ.cell 10
        have z11 : (WZ).cell? ⟨w.heap.size + 1, 11, none⟩ = some (.int .i64 0) := CZ.cell 11
        refine bodyPost_ret (v := .tuple #[.agg zeroC, .bool false]) (by simp [results, Tryz.results14, go_sem, z0, z1, z2, z3, z4, z5, z6, z7, z8, z9, z10, z11]) rfl ?_
        refine ⟨zeroH, by rw [newM, HE.out]; rfl, ?_, KZ.out⟩
        rw [newM, HE.out]
        exact zeroA _
      · have HE : Hid (newO cs ts (N : Int) = true) := by rw [Hid, HR.out.1]; exact hok
        go_upto_region 7 with (fail)
        have kd : Kept wc wc.drew := (Below.refl _ wc).drew
        have ka : Kept wc (wc.alloc (.cells #[.int .i64 0, .int .i64 0, .int .i64 R.2.1] 94)).drew := (Kept.alloc kd (.cells #[.int .i64 0, .int .i64 0, .int .i64 R.2.1] 94) : Kept wc (wc.drew.alloc (.cells #[.int .i64 0, .int .i64 0, .int .i64 R.2.1] 94)))
        have hS2 : Hid (w.heap.size + 1 < wc.heap.size) := HY2.out.lt
        have HKd : Hid (Kept w wc.drew) := Kept.trans HK8.out kd
        have HKa : Hid (Kept w (wc.alloc (.cells #[.int .i64 0, .int .i64 0, .int .i64 R.2.1] 94)).drew) := Kept.trans HK8.out ka
        have HB : Hid (∀ u, Kept wc u → (u.cell? ⟨w.heap.size, 0, none⟩ = some (slB g nc nc) ∧ u.cell? ⟨w.heap.size, 1, none⟩ = some (slB h nt nt)) ∧ u.cell? ⟨B8, 0, none⟩ = some (slB g2 N N)) := fun u hu' => ⟨⟨(HY1.out.kept hu').cell 0, (HY1.out.kept hu').cell 1⟩, (HC8.out.kept hu').cell 0⟩
        have HY : Hid (∀ u, Kept wc u → Cells u (w.heap.size + 1) 43 zeroC) := fun u hu' => HY2.out.kept hu'
        obtain ⟨⟨b0, b1⟩, b2⟩ := HB.out _ kd
        obtain ⟨⟨e0, e1⟩, e2⟩ := HB.out _ ka
        have FIN : Hid (∀ W ga ca cc ta tc, Kept wc W → Cells W ga 94 #[.int .i64 0, .int .i64 0, .int .i64 R.2.1] → (∀ W', Fro wc.heap.size W W' → CodsA W' ca cs ∧ StA W' ta ts) → Hid (Cells (st12 W (w.heap.size + 1) (.slice ca nc cc) (.slice ta nt tc) (slB g2 N N) (.int .i64 0) (.slice none 0 0) (.slice none 0 0) (.int .i64 0) (slB ga 1 1) (.slice none 0 0) (.slice none 0 0) (.bool false) (.int .i64 0)) (w.heap.size + 1) 43 #[.slice ca nc cc, .slice ta nt tc, slB g2 N N, .int .i64 0, .slice none 0 0, .slice none 0 0, .int .i64 0, slB ga 1 1, .slice none 0 0, .slice none 0 0, .bool false, .int .i64 0]) ∧ Hid (Cells (st12 W (w.heap.size + 1) (.slice ca nc cc) (.slice ta nt tc) (slB g2 N N) (.int .i64 0) (.slice none 0 0) (.slice none 0 0) (.int .i64 0) (slB ga 1 1) (.slice none 0 0) (.slice none 0 0) (.bool false) (.int .i64 0)) ga 94 #[.int .i64 0, .int .i64 0, .int .i64 R.2.1]) ∧ Hid (CodsA (st12 W (w.heap.size + 1) (.slice ca nc cc) (.slice ta nt tc) (slB g2 N N) (.int .i64 0) (.slice none 0 0) (.slice none 0 0) (.int .i64 0) (slB ga 1 1) (.slice none 0 0) (.slice none 0 0) (.bool false) (.int .i64 0)) ca cs ∧ StA (st12 W (w.heap.size + 1) (.slice ca nc cc) (.slice ta nt tc) (slB g2 N N) (.int .i64 0) (.slice none 0 0) (.slice none 0 0) (.int .i64 0) (slB ga 1 1) (.slice none 0 0) (.slice none 0 0) (.bool false) (.int .i64 0)) ta ts) ∧ Hid (Row (st12 W (w.heap.size + 1) (.slice ca nc cc) (.slice ta nt tc) (slB g2 N N) (.int .i64 0) (.slice none 0 0) (.slice none 0 0) (.int .i64 0) (slB ga 1 1) (.slice none 0 0) (.slice none 0 0) (.bool false) (.int .i64 0)) g2 R.1) ∧ Hid (Kept w (st12 W (w.heap.size + 1) (.slice ca nc cc) (.slice ta nt tc) (slB g2 N N) (.int .i64 0) (.slice none 0 0) (.slice none 0 0) (.int .i64 0) (slB ga 1 1) (.slice none 0 0) (.slice none 0 0) (.bool false) (.int .i64 0)))) := fun W ga ca cc ta tc hW hga hF => by
          have hS := hS2.out
          have hne : ga ≠ w.heap.size + 1 := cells_ne hga (HY.out W hW) (by decide)
          have hf : Fro wc.heap.size W (st12 W (w.heap.size + 1) (.slice ca nc cc) (.slice ta nt tc) (slB g2 N N) (.int .i64 0) (.slice none 0 0) (.slice none 0 0) (.int .i64 0) (slB ga 1 1) (.slice none 0 0) (.slice none 0 0) (.bool false) (.int .i64 0)) := ⟨Nat.le_of_eq (by simp [st12]), fun j hj _ => st12_heap W (w.heap.size + 1) (.slice ca nc cc) (.slice ta nt tc) (slB g2 N N) (.int .i64 0) (.slice none 0 0) (.slice none 0 0) (.int .i64 0) (slB ga 1 1) (.slice none 0 0) (.slice none 0 0) (.bool false) (.int .i64 0) (by omega)⟩
          refine ⟨st12_cells (.slice ca nc cc) (.slice ta nt tc) (slB g2 N N) (.int .i64 0) (.slice none 0 0) (.slice none 0 0) (.int .i64 0) (slB ga 1 1) (.slice none 0 0) (.slice none 0 0) (.bool false) (.int .i64 0) (HY.out W hW), (st12_heap W (w.heap.size + 1) (.slice ca nc cc) (.slice ta nt tc) (slB g2 N N) (.int .i64 0) (.slice none 0 0) (.slice none 0 0) (.int .i64 0) (slB ga 1 1) (.slice none 0 0) (.slice none 0 0) (.bool false) (.int .i64 0) hne).trans hga, hF _ hf, ?_, st12_kept (.slice ca nc cc) (.slice ta nt tc) (slB g2 N N) (.int .i64 0) (.slice none 0 0) (.slice none 0 0) (.int .i64 0) (slB ga 1 1) (.slice none 0 0) (.slice none 0 0) (.bool false) (.int .i64 0) (Kept.trans HK8.out hW) (by omega)⟩
          have hr := HR8.out.kept hW
          exact hr.block (st12_heap W (w.heap.size + 1) (.slice ca nc cc) (.slice ta nt tc) (slB g2 N N) (.int .i64 0) (.slice none 0 0) (.slice none 0 0) (.int .i64 0) (slB ga 1 1) (.slice none 0 0) (.slice none 0 0) (.bool false) (.int .i64 0) (by have := HG2.out; omega))
        go_cut [5] from 36 to 44 (fun b wx => b = .bool true ∧ ∃ ca cc ta tc ga, Hid (Cells wx (w.heap.size + 1) 43 #[.slice ca nc cc, .slice ta nt tc, slB g2 N N, .int .i64 0, .slice none 0 0, .slice none 0 0, .int .i64 0, slB ga 1 1, .slice none 0 0, .slice none 0 0, .bool false, .int .i64 0]) ∧ Hid (Cells wx ga 94 #[.int .i64 0, .int .i64 0, .int .i64 R.2.1]) ∧ Hid (CodsA wx ca cs ∧ StA wx ta ts) ∧ Hid (Row wx g2 R.1) ∧ Hid (Kept w wx))
        case first =>
          go_region_with (first
            | (go_at_call 51; refine (HLU.out _ HKd.out).mono ?_; rintro e w4 ⟨ca, cc, ta, tc, rfl, F4, k4⟩; have kk : Kept wc w4 := kd.trans k4; have FU : Hid (∀ W', Fro wc.heap.size w4 W' → CodsA W' ca cs ∧ StA W' ta ts) := (fun W' hf => F4 W' hf); have yy : Cells w4 (w.heap.size + 1) 43 zeroC := HY.out _ kk; have ya : Cells (w4.alloc (.cells #[.int .i64 0, .int .i64 0, .int .i64 R.2.1] 94)) (w.heap.size + 1) 43 zeroC := HY.out _ (Kept.alloc kk _); have y0 : w4.cell? ⟨w.heap.size + 1, 0, none⟩ = some (.slice none 0 0) := yy.cell 0; have yf0 := yy.frozen 0; have x0 : (w4.alloc (.cells #[.int .i64 0, .int .i64 0, .int .i64 R.2.1] 94)).cell? ⟨w.heap.size + 1, 0, none⟩ = some (.slice none 0 0) := ya.cell 0; have xf0 := ya.frozen 0; have y1 : w4.cell? ⟨w.heap.size + 1, 1, none⟩ = some (.slice none 0 0) := yy.cell 1; have yf1 := yy.frozen 1; have x1 : (w4.alloc (.cells #[.int .i64 0, .int .i64 0, .int .i64 R.2.1] 94)).cell? ⟨w.heap.size + 1, 1, none⟩ = some (.slice none 0 0) := ya.cell 1; have xf1 := ya.frozen 1; have y2 : w4.cell? ⟨w.heap.size + 1, 2, none⟩ = some (.slice none 0 0) := yy.cell 2; have yf2 := yy.frozen 2; have x2 : (w4.alloc (.cells #[.int .i64 0, .int .i64 0, .int .i64 R.2.1] 94)).cell? ⟨w.heap.size + 1, 2, none⟩ = some (.slice none 0 0) := ya.cell 2; have xf2 := ya.frozen 2; have y3 : w4.cell? ⟨w.heap.size + 1, 3, none⟩ = some (.int .i64 0) := yy.cell 3; have yf3 := yy.frozen 3; have x3 : (w4.alloc (.cells #[.int .i64 0, .int .i64 0, .int .i64 R.2.1] 94)).cell? ⟨w.heap.size + 1, 3, none⟩ = some (.int .i64 0) := ya.cell 3; have xf3 := ya.frozen 3; have y4 : w4.cell? ⟨w.heap.size + 1, 4, none⟩ = some (.slice none 0 0) := yy.cell 4; have yf4 := yy.frozen 4; have x4 : (w4.alloc (.cells #[.int .i64 0, .int .i64 0, .int .i64 R.2.1] 94)).cell? ⟨w.heap.size + 1, 4, none⟩ = some (.slice none 0 0) := ya.cell 4; have xf4 := ya.frozen 4; have y5 : w4.cell? ⟨w.heap.size + 1, 5, none⟩ = some (.slice none 0 0) := yy.cell 5; have yf5 := yy.frozen 5; have x5 : (w4.alloc (.cells #[.int .i64 0, .int .i64 0, .int .i64 R.2.1] 94)).cell? ⟨w.heap.size + 1, 5, none⟩ = some (.slice none 0 0) := ya.cell 5; have xf5 := ya.frozen 5; have y6 : w4.cell? ⟨w.heap.size + 1, 6, none⟩ = some (.int .i64 0) := yy.cell 6; have yf6 := yy.frozen 6; have x6 : (w4.alloc (.cells #[.int .i64 0, .int .i64 0, .int .i64 R.2.1] 94)).cell? ⟨w.heap.size + 1, 6, none⟩ = some (.int .i64 0) := ya.cell 6; have xf6 := ya.frozen 6; have y7 : w4.cell? ⟨w.heap.size + 1, 7, none⟩ = some (.slice none 0 0) := yy.cell 7; have yf7 := yy.frozen 7; have x7 : (w4.alloc (.cells #[.int .i64 0, .int .i64 0, .int .i64 R.2.1] 94)).cell? ⟨w.heap.size + 1, 7, none⟩ = some (.slice none 0 0) := ya.cell 7; have xf7 := ya.frozen 7; have y8 : w4.cell? ⟨w.heap.size + 1, 8, none⟩ = some (.slice none 0 0) := yy.cell 8; have yf8 := yy.frozen 8; have x8 : (w4.alloc (.cells #[.int .i64 0, .int .i64 0, .int .i64 R.2.1] 94)).cell? ⟨w.heap.size + 1, 8, none⟩ = some (.slice none 0 0) := ya.cell 8; have xf8 := ya.frozen 8; have y9 : w4.cell? ⟨w.heap.size + 1, 9, none⟩ = some (.slice none 0 0) := yy.cell 9; have yf9 := yy.frozen 9; have x9 : (w4.alloc (.cells #[.int .i64 0, .int .i64 0, .int .i64 R.2.1] 94)).cell? ⟨w.heap.size + 1, 9, none⟩ = some (.slice none 0 0) := ya.cell 9; have xf9 := ya.frozen 9; have y10 : w4.cell? ⟨w.heap.size + 1, 10, none⟩ = some (.bool false) := yy.cell 10; have yf10 := yy.frozen 10; have x10 : (w4.alloc (.cells #[.int .i64 0, .int .i64 0, .int .i64 R.2.1] 94)).cell? ⟨w.heap.size + 1, 10, none⟩ = some (.bool false) := ya.cell 10; have xf10 := ya.frozen 10; have y11 : w4.cell? ⟨w.heap.size + 1, 11, none⟩ = some (.int .i64 0) := yy.cell 11; have yf11 := yy.frozen 11; have x11 : (w4.alloc (.cells #[.int .i64 0, .int .i64 0, .int .i64 R.2.1] 94)).cell? ⟨w.heap.size + 1, 11, none⟩ = some (.int .i64 0) := ya.cell 11; have xf11 := ya.frozen 11; obtain ⟨⟨m0, m1⟩, m2⟩ := HB.out _ kk; obtain ⟨⟨n0, n1⟩, n2⟩ := HB.out (w4.alloc (.cells #[.int .i64 0, .int .i64 0, .int .i64 R.2.1] 94)) (Kept.alloc kk _))
            | (go_at_call 51; refine (HLU.out _ HKa.out).mono ?_; rintro e w4 ⟨ca, cc, ta, tc, rfl, F4, k4⟩; have kk : Kept wc w4 := ka.trans k4; have FU : Hid (∀ W', Fro wc.heap.size w4 W' → CodsA W' ca cs ∧ StA W' ta ts) := (fun W' hf => F4 W' (hf.mono ka.size)); have yg : Cells w4 wc.heap.size 94 #[.int .i64 0, .int .i64 0, .int .i64 R.2.1] := ((Cells.new wc.drew 94 #[.int .i64 0, .int .i64 0, .int .i64 R.2.1]) : Cells (wc.alloc (.cells #[.int .i64 0, .int .i64 0, .int .i64 R.2.1] 94)).drew wc.heap.size 94 _).kept k4; have yy : Cells w4 (w.heap.size + 1) 43 zeroC := HY.out _ kk; have ya : Cells (w4.alloc (.cells #[.int .i64 0, .int .i64 0, .int .i64 R.2.1] 94)) (w.heap.size + 1) 43 zeroC := HY.out _ (Kept.alloc kk _); have y0 : w4.cell? ⟨w.heap.size + 1, 0, none⟩ = some (.slice none 0 0) := yy.cell 0; have yf0 := yy.frozen 0; have x0 : (w4.alloc (.cells #[.int .i64 0, .int .i64 0, .int .i64 R.2.1] 94)).cell? ⟨w.heap.size + 1, 0, none⟩ = some (.slice none 0 0) := ya.cell 0; have xf0 := ya.frozen 0; have y1 : w4.cell? ⟨w.heap.size + 1, 1, none⟩ = some (.slice none 0 0) := yy.cell 1; have yf1 := yy.frozen 1; have x1 : (w4.alloc (.cells #[.int .i64 0, .int .i64 0, .int .i64 R.2.1] 94)).cell? ⟨w.heap.size + 1, 1, none⟩ = some (.slice none 0 0) := ya.cell 1; have xf1 := ya.frozen 1; have y2 : w4.cell? ⟨w.heap.size + 1, 2, none⟩ = some (.slice none 0 0) := yy.cell 2; have yf2 := yy.frozen 2; have x2 : (w4.alloc (.cells #[.int .i64 0, .int .i64 0, .int .i64 R.2.1] 94)).cell? ⟨w.heap.size + 1, 2, none⟩ = some (.slice none 0 0) := ya.cell 2; have xf2 := ya.frozen 2; have y3 : w4.cell? ⟨w.heap.size + 1, 3, none⟩ = some (.int .i64 0) := yy.cell 3; have yf3 := yy.frozen 3; have x3 : (w4.alloc (.cells #[.int .i64 0, .int .i64 0, .int .i64 R.2.1] 94)).cell? ⟨w.heap.size + 1, 3, none⟩ = some (.int .i64 0) := ya.cell 3; have xf3 := ya.frozen 3; have y4 : w4.cell? ⟨w.heap.size + 1, 4, none⟩ = some (.slice none 0 0) := yy.cell 4; have yf4 := yy.frozen 4; have x4 : (w4.alloc (.cells #[.int .i64 0, .int .i64 0, .int .i64 R.2.1] 94)).cell? ⟨w.heap.size + 1, 4, none⟩ = some (.slice none 0 0) := ya.cell 4; have xf4 := ya.frozen 4; have y5 : w4.cell? ⟨w.heap.size + 1, 5, none⟩ = some (.slice none 0 0) := yy.cell 5; have yf5 := yy.frozen 5; have x5 : (w4.alloc (.cells #[.int .i64 0, .int .i64 0, .int .i64 R.2.1] 94)).cell? ⟨w.heap.size + 1, 5, none⟩ = some (.slice none 0 0) := ya.cell 5; have xf5 := ya.frozen 5; have y6 : w4.cell? ⟨w.heap.size + 1, 6, none⟩ = some (.int .i64 0) := yy.cell 6; have yf6 := yy.frozen 6; have x6 : (w4.alloc (.cells #[.int .i64 0, .int .i64 0, .int .i64 R.2.1] 94)).cell? ⟨w.heap.size + 1, 6, none⟩ = some (.int .i64 0) := ya.cell 6; have xf6 := ya.frozen 6; have y7 : w4.cell? ⟨w.heap.size + 1, 7, none⟩ = some (.slice none 0 0) := yy.cell 7; have yf7 := yy.frozen 7; have x7 : (w4.alloc (.cells #[.int .i64 0, .int .i64 0, .int .i64 R.2.1] 94)).cell? ⟨w.heap.size + 1, 7, none⟩ = some (.slice none 0 0) := ya.cell 7; have xf7 := ya.frozen 7; have y8 : w4.cell? ⟨w.heap.size + 1, 8, none⟩ = some (.slice none 0 0) := yy.cell 8; have yf8 := yy.frozen 8; have x8 : (w4.alloc (.cells #[.int .i64 0, .int .i64 0, .int .i64 R.2.1] 94)).cell? ⟨w.heap.size + 1, 8, none⟩ = some (.slice none 0 0) := ya.cell 8; have xf8 := ya.frozen 8; have y9 : w4.cell? ⟨w.heap.size + 1, 9, none⟩ = some (.slice none 0 0) := yy.cell 9; have yf9 := yy.frozen 9; have x9 : (w4.alloc (.cells #[.int .i64 0, .int .i64 0, .int .i64 R.2.1] 94)).cell? ⟨w.heap.size + 1, 9, none⟩ = some (.slice none 0 0) := ya.cell 9; have xf9 := ya.frozen 9; have y10 : w4.cell? ⟨w.heap.size + 1, 10, none⟩ = some (.bool false) := yy.cell 10; have yf10 := yy.frozen 10; have x10 : (w4.alloc (.cells #[.int .i64 0, .int .i64 0, .int .i64 R.2.1] 94)).cell? ⟨w.heap.size + 1, 10, none⟩ = some (.bool false) := ya.cell 10; have xf10 := ya.frozen 10; have y11 : w4.cell? ⟨w.heap.size + 1, 11, none⟩ = some (.int .i64 0) := yy.cell 11; have yf11 := yy.frozen 11; have x11 : (w4.alloc (.cells #[.int .i64 0, .int .i64 0, .int .i64 R.2.1] 94)).cell? ⟨w.heap.size + 1, 11, none⟩ = some (.int .i64 0) := ya.cell 11; have xf11 := ya.frozen 11; obtain ⟨⟨m0, m1⟩, m2⟩ := HB.out _ kk; obtain ⟨⟨n0, n1⟩, n2⟩ := HB.out (w4.alloc (.cells #[.int .i64 0, .int .i64 0, .int .i64 R.2.1] 94)) (Kept.alloc kk _)))
          all_goals (
            go_wp2_with fail
            go_meet
            first
              | (have q := FIN.out w4 wc.heap.size ca cc ta tc kk yg FU.out
                 exact ⟨rfl, ca, cc, ta, tc, wc.heap.size, q⟩)
              | (have q := FIN.out (w4.alloc (.cells #[.int .i64 0, .int .i64 0, .int .i64 R.2.1] 94)) w4.heap.size ca cc ta tc (Kept.alloc kk _) (Cells.new _ _ _) (fun W' hf => FU.out W' ((Fro.kept (Kept.alloc (Below.refl _ w4) _)).trans hf))
                 exact ⟨rfl, ca, cc, ta, tc, w4.heap.size, q⟩))
        case rest =>
        obtain ⟨rfl, ca, cc, ta, tc, ga, HM, HGA, HCS, HRW, HKW⟩ := hcut
        clear b0 b1 b2 e0 e1 e2
        have z0 := HM.out.cell 0
        have z1 := HM.out.cell 1
        have z2 := HM.out.cell 2
        have z3 := HM.out.cell 3
        have z4 := HM.out.cell 4
        have z5 := HM.out.cell 5
        have z6 := HM.out.cell 6
        have z7 := HM.out.cell 7
        have z8 := HM.out.cell 8
        have z9 := HM.out.cell 9
        have z10 := HM.out.cell 10
        have z11 := HM.out.cell 11
        go_wp2_with fail
        refine bodyPost_ret (v := .tuple #[.agg #[.slice ca nc cc, .slice ta nt tc, slB g2 N N, .int .i64 0, .slice none 0 0, .slice none 0 0, .int .i64 0, slB ga 1 1, .slice none 0 0, .slice none 0 0, .bool false, .int .i64 0], .bool true]) (by simp [results, Tryz.results14, go_sem, z0, z1, z2, z3, z4, z5, z6, z7, z8, z9, z10, z11]) rfl ⟨⟨ca, cc, ta, tc, some ⟨g2, 0, none⟩, N, none, 0, none, 0, some ⟨ga, 0, none⟩, 1, none, 0, none, 0⟩, ?_, ?_, HKW.out⟩
        · rw [newM, HE.out, if_pos rfl]
          simp only [Int.toNat_natCast, HR.out.2.1, mchC, HNN.out.1, HNN.out.2, HR.out.2.2]
          rfl
        · rw [newM, HE.out, if_pos rfl]
          simp only [Int.toNat_natCast, HR.out.2.1]
          refine ⟨HCS.out.1, HCS.out.2, HRW.out.ints, ⟨by simp, .inl rfl⟩, ⟨by simp, .inl rfl⟩, fun j s hs => ?_, ⟨by simp, .inl rfl⟩, fun j s hs => by simp at hs⟩
          cases j with
          | succ j => simp at hs
          | zero =>
            simp at hs
            subst hs
            exact ⟨ga, 0, rfl, HGA.out.cell 0, HGA.out.cell 1, HGA.out.cell 2⟩
end Go.Proofs.YtgempjjnfpmndaaGreatDoor
namespace Go.Proofs.YtgempjjnfpmndaaGreatDoor
open Go.RowKit
set_option linter.unusedSimpArgs false
set_option linter.unusedVariables false
theorem Row.wrJ {W : World} {g : Nat} {zs : List Int} (h : Row W g zs) : WrJ W g 3 zs.length := by
  obtain ⟨_, cur, h1, h2, h3⟩ := h
  exact ⟨cur, h1, fun i hi => ⟨_, h3 i hi, noSl_int _ _⟩⟩
set_option maxHeartbeats 16000000 in
set_option maxRecDepth 100000 in
theorem impl_MachineNew_ok (w : World) (g h : Nat) (cs : List Cod) (ts : List ByteArray) (n : Int) (hnw : (Lit.int .i64 n).wf = true) (hC : CodX w g cs) (hT : RowT w h ts ts.length) (hl : cs.length ≤ 1048576) (hi : ∀ c ∈ cs, c.ss.length ≤ 1048576) (ht : ts.length ≤ 1048576) (hFm : Forms w) :
    Calls Tryz.prog 16 #[.agg #[slB g cs.length cs.length, slB h ts.length ts.length], .int .i64 n] w fun e w' => (newO cs ts n = false → e = .returned (.tuple #[.agg zeroC, .bool false])) ∧ (newO cs ts n = true → ∃ g0 u0 g1 u1 g2 c2 ga xs cp, e = .returned (.tuple #[.agg (resC g0 u0 g1 u1 g2 c2 ga 1 cs ts (newS cs n.toNat).1 [(0, 0, (newS cs n.toNat).2.1)]), .bool true]) ∧ MchX w' w.heap.size w'.heap.size g0 g1 g2 ga xs cp cs ts (newS cs n.toNat).1 [(0, 0, (newS cs n.toNat).2.1)] ∧ (∀ W', Fro w.heap.size w' W' → MchA W' (resH g0 u0 g1 u1 g2 c2 ga 1) (resM cs ts (newS cs n.toNat).1 [(0, 0, (newS cs n.toNat).2.1)]))) ∧ Kept w w' := by
  obtain ⟨W0, hW0⟩ : ∃ W0, (w.alloc (.cells #[slB g cs.length cs.length, slB h ts.length ts.length] 38)).alloc (.cells zeroC 43) = W0 := ⟨_, rfl⟩
  have k0 : Kept w W0 := hW0 ▸ (Kept.alloc (Below.refl _ _) _).alloc _
  have X1 : Cells W0 w.heap.size 38 #[slB g cs.length cs.length, slB h ts.length ts.length] := hW0 ▸ (Cells.new w 38 #[slB g cs.length cs.length, slB h ts.length ts.length]).alloc _
  have X2 : Cells W0 (w.heap.size + 1) 43 zeroC := by
    have := Cells.new (w.alloc (.cells #[slB g cs.length cs.length, slB h ts.length ts.length] 38)) 43 zeroC
    simp only [World.size_alloc] at this
    exact hW0 ▸ this
  have hs0 : W0.heap.size = w.heap.size + 2 := by rw [← hW0]; simp
  have HUn : Hid (∀ u, Kept w u → Calls Tryz.prog 54 #[.agg #[slB g cs.length cs.length, slB h ts.length ts.length]] u fun e w' => e = .returned (.bool (unitR cs ts)) ∧ Kept u w') := fun u hu => impl_UnitOk_ok u _ _ _ _ cs ts ((CodX.codsO hC).all.kept hu) (hT.done.kept hu) hl ht (hFm.kept hu)
  have HX1 : Hid (∀ u, Kept W0 u → Cells u w.heap.size 38 #[slB g cs.length cs.length, slB h ts.length ts.length]) := fun u hu => X1.kept hu
  have HX2 : Hid (∀ u, Kept W0 u → Cells u (w.heap.size + 1) 43 zeroC) := fun u hu => X2.kept hu
  have HK0 : Hid (Kept w W0) := k0
  have HS0 : Hid (W0.heap.size = w.heap.size + 2) := hs0
  obtain ⟨nc, hnc⟩ : ∃ y, cs.length = y := ⟨_, rfl⟩
  obtain ⟨nt, hnt⟩ : ∃ y, ts.length = y := ⟨_, rfl⟩
  rw [hnc, hnt] at HUn HX1
  rw [hnc, hnt] at hW0 ⊢
  by_cases hr : 2 ≤ n ∧ n ≤ 2000
  rotate_left
  · have hN := impl_SlabNew_no W0 n (by omega)
    have HE : Hid (newO cs ts n = false) := by rw [Hid]; unfold newO; rw [decide_eq_false hr]; rfl
    clear k0 X1 X2 hs0 hC hT hFm HUn hr
    go_enter Tryz.func16, Tryz.ntmps16
    go_upto_region 1 with (fail)
    try simp only [hW0]
    clear hW0
    go_wp2_with fail
    refine hN.mono ?_
    rintro e w1 ⟨rfl, k1⟩
    clear hN
    go_upto_region 2 with (fail)
    obtain ⟨W1, hW1⟩ : ∃ y, w1.alloc (.cells #[.slice none 0 0] 39) = y := ⟨_, rfl⟩
    have K1 : Kept W0 W1 := hW1 ▸ Kept.alloc k1 _
    have CX := HX2.out _ K1
    have KX : Kept w W1 := Kept.trans HK0.out K1
    try simp only [hW1]
    clear hW1
    obtain ⟨WZ, hWZ⟩ : ∃ y, st12 W1 (w.heap.size + 1) (.slice none 0 0) (.slice none 0 0) (.slice none 0 0) (.int .i64 0) (.slice none 0 0) (.slice none 0 0) (.int .i64 0) (.slice none 0 0) (.slice none 0 0) (.slice none 0 0) (.bool false) (.int .i64 0) = y := ⟨_, rfl⟩
    have CZ : Cells WZ (w.heap.size + 1) 43 zeroC := hWZ ▸ st12_cells (.slice none 0 0) (.slice none 0 0) (.slice none 0 0) (.int .i64 0) (.slice none 0 0) (.slice none 0 0) (.int .i64 0) (.slice none 0 0) (.slice none 0 0) (.slice none 0 0) (.bool false) (.int .i64 0) CX
    have KZ : Hid (Kept w WZ) := hWZ ▸ st12_kept (.slice none 0 0) (.slice none 0 0) (.slice none 0 0) (.int .i64 0) (.slice none 0 0) (.slice none 0 0) (.int .i64 0) (.slice none 0 0) (.slice none 0 0) (.slice none 0 0) (.bool false) (.int .i64 0) KX (by omega)
    have HZ : Hid (∀ y, y ≠ w.heap.size + 1 → WZ.heap[y]? = (W1).heap[y]?) := fun y hy => hWZ ▸ st12_heap _ _ (.slice none 0 0) (.slice none 0 0) (.slice none 0 0) (.int .i64 0) (.slice none 0 0) (.slice none 0 0) (.int .i64 0) (.slice none 0 0) (.slice none 0 0) (.slice none 0 0) (.bool false) (.int .i64 0) hy
    have a0 : (W1).cell? ⟨w.heap.size + 1, 0, none⟩ = some (.slice none 0 0) := CX.cell 0
    have af0 := CX.frozen 0
    have a1 : (W1).cell? ⟨w.heap.size + 1, 1, none⟩ = some (.slice none 0 0) := CX.cell 1
    have af1 := CX.frozen 1
    have a2 : (W1).cell? ⟨w.heap.size + 1, 2, none⟩ = some (.slice none 0 0) := CX.cell 2
    have af2 := CX.frozen 2
    have a3 : (W1).cell? ⟨w.heap.size + 1, 3, none⟩ = some (.int .i64 0) := CX.cell 3
    have af3 := CX.frozen 3
    have a4 : (W1).cell? ⟨w.heap.size + 1, 4, none⟩ = some (.slice none 0 0) := CX.cell 4
    have af4 := CX.frozen 4
    have a5 : (W1).cell? ⟨w.heap.size + 1, 5, none⟩ = some (.slice none 0 0) := CX.cell 5
    have af5 := CX.frozen 5
    have a6 : (W1).cell? ⟨w.heap.size + 1, 6, none⟩ = some (.int .i64 0) := CX.cell 6
    have af6 := CX.frozen 6
    have a7 : (W1).cell? ⟨w.heap.size + 1, 7, none⟩ = some (.slice none 0 0) := CX.cell 7
    have af7 := CX.frozen 7
    have a8 : (W1).cell? ⟨w.heap.size + 1, 8, none⟩ = some (.slice none 0 0) := CX.cell 8
    have af8 := CX.frozen 8
    have a9 : (W1).cell? ⟨w.heap.size + 1, 9, none⟩ = some (.slice none 0 0) := CX.cell 9
    have af9 := CX.frozen 9
    have a10 : (W1).cell? ⟨w.heap.size + 1, 10, none⟩ = some (.bool false) := CX.cell 10
    have af10 := CX.frozen 10
    have a11 : (W1).cell? ⟨w.heap.size + 1, 11, none⟩ = some (.int .i64 0) := CX.cell 11
    have af11 := CX.frozen 11
    simp only [st12] at hWZ
    go_wp2_with fail
    try simp only [hWZ]
    have z0 : (WZ).cell? ⟨w.heap.size + 1, 0, none⟩ = some (.slice none 0 0) := CZ.cell 0
    have z1 : (WZ).cell? ⟨w.heap.size + 1, 1, none⟩ = some (.slice none 0 0) := CZ.cell 1
    have z2 : (WZ).cell? ⟨w.heap.size + 1, 2, none⟩ = some (.slice none 0 0) := CZ.cell 2
    have z3 : (WZ).cell? ⟨w.heap.size + 1, 3, none⟩ = some (.int .i64 0) := CZ.cell 3
    have z4 : (WZ).cell? ⟨w.heap.size + 1, 4, none⟩ = some (.slice none 0 0) := CZ.cell 4
    have z5 : (WZ).cell? ⟨w.heap.size + 1, 5, none⟩ = some (.slice none 0 0) := CZ.cell 5
    have z6 : (WZ).cell? ⟨w.heap.size + 1, 6, none⟩ = some (.int .i64 0) := CZ.cell 6
    have z7 : (WZ).cell? ⟨w.heap.size + 1, 7, none⟩ = some (.slice none 0 0) := CZ.cell 7
    have z8 : (WZ).cell? ⟨w.heap.size + 1, 8, none⟩ = some (.slice none 0 0) := CZ.cell 8
    have z9 : (WZ).cell? ⟨w.heap.size + 1, 9, none⟩ = some (.slice none 0 0) := CZ.cell 9
    have z10 : (WZ).cell? ⟨w.heap.size + 1, 10, none⟩ = some (.bool false) := CZ.cell 10
    have z11 : (WZ).cell? ⟨w.heap.size + 1, 11, none⟩ = some (.int .i64 0) := CZ.cell 11
    refine bodyPost_ret (v := .tuple #[.agg zeroC, .bool false]) (by simp [results, Tryz.results16, go_sem, z0, z1, z2, z3, z4, z5, z6, z7, z8, z9, z10, z11]) rfl ?_
    exact ⟨fun _ => rfl, fun hh => (by rw [HE.out] at hh; cases hh), KZ.out⟩
  · obtain ⟨N, rfl⟩ : ∃ N : Nat, n = N := ⟨n.toNat, by omega⟩
    have hN2 : 2 ≤ N := by omega
    have hN3 : N ≤ 2000 := by omega
    have hN := impl_SlabNew_yes W0 N hN2 hN3
    cases hu : unitR cs ts
    · have HE : Hid (newO cs ts (N : Int) = false) := by rw [Hid]; unfold newO; rw [hu]; simp
      rw [hu] at HUn
      have b0' := X1.cell 0
      clear k0 X1 X2 hs0 hC hT hFm hu b0'
      go_enter Tryz.func16, Tryz.ntmps16
      go_upto_region 1 with (fail)
      try simp only [hW0]
      clear hW0
      go_wp2_with fail
      refine hN.mono ?_
      rintro e w1 ⟨g2, rfl, hg2, hR2, k1⟩
      clear hN
      go_upto_region 2 with (fail)
      obtain ⟨W1, hW1⟩ : ∃ y, w1.alloc (.cells #[slB g2 N N] 39) = y := ⟨_, rfl⟩
      have K1 : Kept W0 W1 := hW1 ▸ Kept.alloc k1 _
      have b0 := (HX1.out _ K1).cell 0
      have b1 := (HX1.out _ K1).cell 1
      have hU := HUn.out W1 (Kept.trans HK0.out K1)
      try simp only [hW1]
      clear hW1
      go_wp2_with fail
      refine hU.mono ?_
      rintro e w2 ⟨rfl, k2⟩
      have K2 : Kept W0 w2 := K1.trans k2
      have CX := HX2.out _ K2
      have KX : Kept w w2 := Kept.trans HK0.out K2
      clear hU b0 b1
      obtain ⟨WZ, hWZ⟩ : ∃ y, st12 w2 (w.heap.size + 1) (.slice none 0 0) (.slice none 0 0) (.slice none 0 0) (.int .i64 0) (.slice none 0 0) (.slice none 0 0) (.int .i64 0) (.slice none 0 0) (.slice none 0 0) (.slice none 0 0) (.bool false) (.int .i64 0) = y := ⟨_, rfl⟩
      have CZ : Cells WZ (w.heap.size + 1) 43 zeroC := hWZ ▸ st12_cells (.slice none 0 0) (.slice none 0 0) (.slice none 0 0) (.int .i64 0) (.slice none 0 0) (.slice none 0 0) (.int .i64 0) (.slice none 0 0) (.slice none 0 0) (.slice none 0 0) (.bool false) (.int .i64 0) CX
      have KZ : Hid (Kept w WZ) := hWZ ▸ st12_kept (.slice none 0 0) (.slice none 0 0) (.slice none 0 0) (.int .i64 0) (.slice none 0 0) (.slice none 0 0) (.int .i64 0) (.slice none 0 0) (.slice none 0 0) (.slice none 0 0) (.bool false) (.int .i64 0) KX (by omega)
      have HZ : Hid (∀ y, y ≠ w.heap.size + 1 → WZ.heap[y]? = (w2).heap[y]?) := fun y hy => hWZ ▸ st12_heap _ _ (.slice none 0 0) (.slice none 0 0) (.slice none 0 0) (.int .i64 0) (.slice none 0 0) (.slice none 0 0) (.int .i64 0) (.slice none 0 0) (.slice none 0 0) (.slice none 0 0) (.bool false) (.int .i64 0) hy
      have a0 : (w2).cell? ⟨w.heap.size + 1, 0, none⟩ = some (.slice none 0 0) := CX.cell 0
      have af0 := CX.frozen 0
      have a1 : (w2).cell? ⟨w.heap.size + 1, 1, none⟩ = some (.slice none 0 0) := CX.cell 1
      have af1 := CX.frozen 1
      have a2 : (w2).cell? ⟨w.heap.size + 1, 2, none⟩ = some (.slice none 0 0) := CX.cell 2
      have af2 := CX.frozen 2
      have a3 : (w2).cell? ⟨w.heap.size + 1, 3, none⟩ = some (.int .i64 0) := CX.cell 3
      have af3 := CX.frozen 3
      have a4 : (w2).cell? ⟨w.heap.size + 1, 4, none⟩ = some (.slice none 0 0) := CX.cell 4
      have af4 := CX.frozen 4
      have a5 : (w2).cell? ⟨w.heap.size + 1, 5, none⟩ = some (.slice none 0 0) := CX.cell 5
      have af5 := CX.frozen 5
      have a6 : (w2).cell? ⟨w.heap.size + 1, 6, none⟩ = some (.int .i64 0) := CX.cell 6
      have af6 := CX.frozen 6
      have a7 : (w2).cell? ⟨w.heap.size + 1, 7, none⟩ = some (.slice none 0 0) := CX.cell 7
      have af7 := CX.frozen 7
      have a8 : (w2).cell? ⟨w.heap.size + 1, 8, none⟩ = some (.slice none 0 0) := CX.cell 8
      have af8 := CX.frozen 8
      have a9 : (w2).cell? ⟨w.heap.size + 1, 9, none⟩ = some (.slice none 0 0) := CX.cell 9
      have af9 := CX.frozen 9
      have a10 : (w2).cell? ⟨w.heap.size + 1, 10, none⟩ = some (.bool false) := CX.cell 10
      have af10 := CX.frozen 10
      have a11 : (w2).cell? ⟨w.heap.size + 1, 11, none⟩ = some (.int .i64 0) := CX.cell 11
      have af11 := CX.frozen 11
      simp only [st12] at hWZ
      go_wp2_with fail
      try simp only [hWZ]
      have z0 : (WZ).cell? ⟨w.heap.size + 1, 0, none⟩ = some (.slice none 0 0) := CZ.cell 0
      have z1 : (WZ).cell? ⟨w.heap.size + 1, 1, none⟩ = some (.slice none 0 0) := CZ.cell 1
      have z2 : (WZ).cell? ⟨w.heap.size + 1, 2, none⟩ = some (.slice none 0 0) := CZ.cell 2
      have z3 : (WZ).cell? ⟨w.heap.size + 1, 3, none⟩ = some (.int .i64 0) := CZ.cell 3
      have z4 : (WZ).cell? ⟨w.heap.size + 1, 4, none⟩ = some (.slice none 0 0) := CZ.cell 4
      have z5 : (WZ).cell? ⟨w.heap.size + 1, 5, none⟩ = some (.slice none 0 0) := CZ.cell 5
      have z6 : (WZ).cell? ⟨w.heap.size + 1, 6, none⟩ = some (.int .i64 0) := CZ.cell 6
      have z7 : (WZ).cell? ⟨w.heap.size + 1, 7, none⟩ = some (.slice none 0 0) := CZ.cell 7
      have z8 : (WZ).cell? ⟨w.heap.size + 1, 8, none⟩ = some (.slice none 0 0) := CZ.cell 8
      have z9 : (WZ).cell? ⟨w.heap.size + 1, 9, none⟩ = some (.slice none 0 0) := CZ.cell 9
      have z10 : (WZ).cell? ⟨w.heap.size + 1, 10, none⟩ = some (.bool false) := CZ.cell 10
      have z11 : (WZ).cell? ⟨w.heap.size + 1, 11, none⟩ = some (.int .i64 0) := CZ.cell 11
      refine bodyPost_ret (v := .tuple #[.agg zeroC, .bool false]) (by simp [results, Tryz.results16, go_sem, z0, z1, z2, z3, z4, z5, z6, z7, z8, z9, z10, z11]) rfl ?_
      exact ⟨fun _ => rfl, fun hh => (by rw [HE.out] at hh; cases hh), KZ.out⟩
    · obtain ⟨c, hc0, hcv, hv12⟩ := vars_of hu
      have hO : newO cs ts (N : Int) = (newS cs N).2.2 := by unfold newO; rw [hu, decide_eq_true ⟨by omega, by omega⟩]; simp
      have hSn := scopeNew_of (cs := cs) (ts := ts) hN2 hN3 hu
      rw [hu] at HUn
      have hV : w.cell? ⟨g, 1, none⟩ = some (.int .i64 (varsO cs : Nat)) := by
        obtain ⟨vs, h1, h2, h3⟩ := hC
        obtain ⟨x, _, _, e1, _, _⟩ := h3 0 c (List.getElem?_eq_some_iff.1 hc0).1 hc0
        rw [h1.cell, ← hcv]
        exact e1
      obtain ⟨V, hVV⟩ : ∃ y, varsO cs = y := ⟨_, rfl⟩
      have hnc1 : 1 ≤ nc := by have := (List.getElem?_eq_some_iff.1 hc0).1; omega
      rw [hVV] at hV hv12 hSn
      have HV : Hid (∀ u, Kept w u → u.cell? ⟨g, 1, none⟩ = some (.int .i64 (V : Nat))) := fun u hu' => cellK hu' hV
      have hS : newS cs N = scoC (newL N) 0 V := by unfold newS; rw [hVV]
      obtain ⟨R, hRR⟩ : ∃ y, newS cs N = y := ⟨_, rfl⟩
      rw [hRR] at hO hS hSn
      have hRl : R.1.length = N := by rw [hS, scoC_len, newL_len]
      have HR : Hid (newO cs ts (N : Int) = R.2.2 ∧ newS cs N = R ∧ R.1.length = N) := ⟨hO, hRR, hRl⟩
      have HSc : Hid (∀ u g2, Row u g2 (newL N) → Calls Tryz.prog 55 #[.agg #[slB g2 N N], .int .i64 0, .int .i64 (V : Nat)] u fun e w' => ∃ g' c', e = .returned (.tuple #[.agg #[slB g' R.1.length c'], .int .i64 R.2.1, .bool R.2.2]) ∧ u.heap.size ≤ g' ∧ Row w' g' R.1 ∧ Kept u w') := fun u g2 hr' => by
        have := impl_ScopeNew_ok u (some ⟨g2, 0, none⟩) N (newL N) 0 (V : Nat) hr'.ints (by rw [newL_len]; omega) (by omega) (by omega)
        rw [newL_len, hSn] at this
        refine this.mono ?_
        rintro e w' ⟨v, rfl, ho, hk⟩
        rcases ho with ⟨rfl, h0⟩ | ⟨g', c', rfl, hb, _, hr⟩
        · exfalso
          rw [h0] at hRl
          simp at hRl
          omega
        · exact ⟨g', c', rfl, hb, hr, hk⟩
      have HLU : Hid (∀ u, Kept w u → Calls Tryz.prog 56 #[.agg #[slB g nc nc, slB h nt nt]] u fun e w' => ∃ g0 u0 g1 u1 xs cp, e = .returned (.agg #[slB g0 nc u0, slB g1 nt u1]) ∧ UntX w' u.heap.size g0 g1 xs cp cs ts ∧ Kept u w') := fun u hu' => by
        have := copyUnit_ok u g h cs ts (CodX.kept hC hu') (hT.on hu').done hl hi ht
        rw [hnc, hnt] at this
        exact this
      have HNN : Hid (cs.length = nc ∧ ts.length = nt) := ⟨hnc, hnt⟩
      clear k0 X1 X2 hs0 hC hT hu hO hS hSn hRR hRl hV hVV hc0 hcv hnc hnt hFm
      go_enter Tryz.func16, Tryz.ntmps16
      go_upto_region 1 with (fail)
      try simp only [hW0]
      clear hW0
      go_wp2_with fail
      refine hN.mono ?_
      rintro e w1 ⟨g2', rfl, hg2, hR2, k1⟩
      clear hN
      go_upto_region 2 with (fail)
      obtain ⟨W1, hW1⟩ : ∃ y, w1.alloc (.cells #[slB g2' N N] 39) = y := ⟨_, rfl⟩
      obtain ⟨B6, hB6⟩ : ∃ y, w1.heap.size = y := ⟨_, rfl⟩
      have C6 : Cells W1 B6 39 #[slB g2' N N] := hB6 ▸ hW1 ▸ Cells.new w1 _ _
      have R1 : Row W1 g2' (newL N) := hR2.kept (hW1 ▸ Kept.alloc (Below.refl _ _) _)
      have K1 : Kept W0 W1 := hW1 ▸ Kept.alloc k1 _
      have b0 := (HX1.out _ K1).cell 0
      have b1 := (HX1.out _ K1).cell 1
      have hU := HUn.out W1 (Kept.trans HK0.out K1)
      have HG2 : Hid (w.heap.size + 2 ≤ g2' ∧ g2' < B6) := by have := HS0.out; have := hR2.lt; rw [Hid]; omega
      try simp only [hW1]
      try simp only [hB6]
      clear hW1 hB6
      go_upto_region 4 with (go_at_call 54; refine hU.mono ?_; rintro e w2 ⟨rfl, k2⟩)
      have kd : Kept w2 w2.drew := (Below.refl _ w2).drew
      have K2 : Kept W0 w2.drew := (K1.trans k2).trans kd
      have R2 : Row w2.drew g2' (newL N) := (R1.kept k2).kept kd
      have C6' := (C6.kept k2).kept kd
      have HK2 : Hid (Kept w w2.drew) := Kept.trans HK0.out K2
      have HR2 : Hid (Row w2.drew g2' (newL N)) := R2
      have HC6 : Hid (Cells w2.drew B6 39 #[slB g2' N N]) := C6'
      have HY1 : Hid (Cells w2.drew w.heap.size 38 #[slB g nc nc, slB h nt nt]) := HX1.out _ K2
      have HY2 : Hid (Cells w2.drew (w.heap.size + 1) 43 zeroC) := HX2.out _ K2
      clear hU b0 b1 C6 R1 hR2
      have b0 := (HX1.out _ K2).cell 0
      have v0 := HV.out _ HK2.out
      have s0 := C6'.cell 0
      have q1 : (1 : Int) ≤ (nc : Int) := by omega
      have q2 : (0 : Int) < (nc : Int) := by omega
      clear K2 R2 C6' k1 k2 K1
      go_cut [7, 8] from 22 to 32 (fun f sc wx => ∃ g2 c2, f = .bool R.2.2 ∧ sc = .int .i64 R.2.1 ∧ Hid (Cells wx B6 39 #[slB g2 R.1.length c2]) ∧ Hid (Row wx g2 R.1) ∧ Hid (Cells wx (w.heap.size + 1) 43 zeroC) ∧ Hid (Cells wx w.heap.size 38 #[slB g nc nc, slB h nt nt]) ∧ Hid (Kept w wx) ∧ Hid (w.heap.size + 2 ≤ g2))
      case first =>
        go_region_with (go_at_call 55; refine (HSc.out _ _ HR2.out).mono ?_; rintro e w3 ⟨g2, c2, rfl, hg2', R3, k3⟩; have yc := HC6.out.kept k3; have y0 := yc.cell 0; have yf := yc.frozen 0)
        all_goals (
          go_wp2_with fail
          go_meet
          have hG := HG2.out
          have hB := HC6.out.lt
          have hR := R3.lt
          exact ⟨g2, c2, rfl, rfl, yc.set 0 _, R3.other (p := ⟨B6, 0, none⟩) (by show g2 ≠ B6; omega) _, (HY2.out.kept k3).other (p := ⟨B6, 0, none⟩) (by show w.heap.size + 1 ≠ B6; omega) _, (HY1.out.kept k3).other (p := ⟨B6, 0, none⟩) (by show w.heap.size ≠ B6; omega) _, (Kept.trans HK2.out k3).set (by show w.heap.size ≤ B6; omega) _, by rw [Hid]; omega⟩)
      case rest =>
      clear HR2 HC6 HY1 HY2 b0 v0 s0 kd HK2
      obtain ⟨g2, c2, rfl, rfl, HC8, HR8, HY2, HY1, HK8, HN8⟩ := hcut
      cases hok : R.2.2
      · have HE : Hid (newO cs ts (N : Int) = false) := by rw [Hid, HR.out.1]; exact hok
        have hS1 := HY1.out.lt
        have CX : Cells wc (w.heap.size + 1) 43 zeroC := HY2.out
        have KX : Kept w wc := HK8.out
        obtain ⟨WZ, hWZ⟩ : ∃ y, st12 wc (w.heap.size + 1) (.slice none 0 0) (.slice none 0 0) (.slice none 0 0) (.int .i64 0) (.slice none 0 0) (.slice none 0 0) (.int .i64 0) (.slice none 0 0) (.slice none 0 0) (.slice none 0 0) (.bool false) (.int .i64 0) = y := ⟨_, rfl⟩
        have CZ : Cells WZ (w.heap.size + 1) 43 zeroC := hWZ ▸ st12_cells (.slice none 0 0) (.slice none 0 0) (.slice none 0 0) (.int .i64 0) (.slice none 0 0) (.slice none 0 0) (.int .i64 0) (.slice none 0 0) (.slice none 0 0) (.slice none 0 0) (.bool false) (.int .i64 0) CX
        have KZ : Hid (Kept w WZ) := hWZ ▸ st12_kept (.slice none 0 0) (.slice none 0 0) (.slice none 0 0) (.int .i64 0) (.slice none 0 0) (.slice none 0 0) (.int .i64 0) (.slice none 0 0) (.slice none 0 0) (.slice none 0 0) (.bool false) (.int .i64 0) KX (by omega)
        have HZ : Hid (∀ y, y ≠ w.heap.size + 1 → WZ.heap[y]? = (wc).heap[y]?) := fun y hy => hWZ ▸ st12_heap _ _ (.slice none 0 0) (.slice none 0 0) (.slice none 0 0) (.int .i64 0) (.slice none 0 0) (.slice none 0 0) (.int .i64 0) (.slice none 0 0) (.slice none 0 0) (.slice none 0 0) (.bool false) (.int .i64 0) hy
        have a0 : (wc).cell? ⟨w.heap.size + 1, 0, none⟩ = some (.slice none 0 0) := CX.cell 0
        have af0 := CX.frozen 0
        have a1 : (wc).cell? ⟨w.heap.size + 1, 1, none⟩ = some (.slice none 0 0) := CX.cell 1
        have af1 := CX.frozen 1
        have a2 : (wc).cell? ⟨w.heap.size + 1, 2, none⟩ = some (.slice none 0 0) := CX.cell 2
        have af2 := CX.frozen 2
        have a3 : (wc).cell? ⟨w.heap.size + 1, 3, none⟩ = some (.int .i64 0) := CX.cell 3
        have af3 := CX.frozen 3
        have a4 : (wc).cell? ⟨w.heap.size + 1, 4, none⟩ = some (.slice none 0 0) := CX.cell 4
        have af4 := CX.frozen 4
        have a5 : (wc).cell? ⟨w.heap.size + 1, 5, none⟩ = some (.slice none 0 0) := CX.cell 5
        have af5 := CX.frozen 5
        have a6 : (wc).cell? ⟨w.heap.size + 1, 6, none⟩ = some (.int .i64 0) := CX.cell 6
        have af6 := CX.frozen 6
        have a7 : (wc).cell? ⟨w.heap.size + 1, 7, none⟩ = some (.slice none 0 0) := CX.cell 7
        have af7 := CX.frozen 7
        have a8 : (wc).cell? ⟨w.heap.size + 1, 8, none⟩ = some (.slice none 0 0) := CX.cell 8
        have af8 := CX.frozen 8
        have a9 : (wc).cell? ⟨w.heap.size + 1, 9, none⟩ = some (.slice none 0 0) := CX.cell 9
        have af9 := CX.frozen 9
        have a10 : (wc).cell? ⟨w.heap.size + 1, 10, none⟩ = some (.bool false) := CX.cell 10
        have af10 := CX.frozen 10
        have a11 : (wc).cell? ⟨w.heap.size + 1, 11, none⟩ = some (.int .i64 0) := CX.cell 11
        have af11 := CX.frozen 11
        simp only [st12] at hWZ
        go_wp2_with fail
        try simp only [hWZ]
        have z0 : (WZ).cell? ⟨w.heap.size + 1, 0, none⟩ = some (.slice none 0 0) := CZ.cell 0
        have z1 : (WZ).cell? ⟨w.heap.size + 1, 1, none⟩ = some (.slice none 0 0) := CZ.cell 1
        have z2 : (WZ).cell? ⟨w.heap.size + 1, 2, none⟩ = some (.slice none 0 0) := CZ.cell 2
        have z3 : (WZ).cell? ⟨w.heap.size + 1, 3, none⟩ = some (.int .i64 0) := CZ.cell 3
        have z4 : (WZ).cell? ⟨w.heap.size + 1, 4, none⟩ = some (.slice none 0 0) := CZ.cell 4
        have z5 : (WZ).cell? ⟨w.heap.size + 1, 5, none⟩ = some (.slice none 0 0) := CZ.cell 5
        have z6 : (WZ).cell? ⟨w.heap.size + 1, 6, none⟩ = some (.int .i64 0) := CZ.cell 6
        have z7 : (WZ).cell? ⟨w.heap.size + 1, 7, none⟩ = some (.slice none 0 0) := CZ.cell 7
        have z8 : (WZ).cell? ⟨w.heap.size + 1, 8, none⟩ = some (.slice none 0 0) := CZ.cell 8
        have z9 : (WZ).cell? ⟨w.heap.size + 1, 9, none⟩ = some (.slice none 0 0) := CZ.cell 9
        have z10 : (WZ).cell? ⟨w.heap.size + 1, 10, none⟩ = some (.bool false) := CZ.cell 10
        have z11 : (WZ).cell? ⟨w.heap.size + 1, 11, none⟩ = some (.int .i64 0) := CZ.cell 11
        refine bodyPost_ret (v := .tuple #[.agg zeroC, .bool false]) (by simp [results, Tryz.results16, go_sem, z0, z1, z2, z3, z4, z5, z6, z7, z8, z9, z10, z11]) rfl ?_
        exact ⟨fun _ => rfl, fun hh => (by rw [HE.out] at hh; cases hh), KZ.out⟩
      · have HE : Hid (newO cs ts (N : Int) = true) := by rw [Hid, HR.out.1]; exact hok
        go_upto_region 7 with (fail)
        have kd : Kept wc wc.drew := (Below.refl _ wc).drew
        have ka : Kept wc (wc.alloc (.cells #[.int .i64 0, .int .i64 0, .int .i64 R.2.1] 94)).drew := (Kept.alloc kd (.cells #[.int .i64 0, .int .i64 0, .int .i64 R.2.1] 94) : Kept wc (wc.drew.alloc (.cells #[.int .i64 0, .int .i64 0, .int .i64 R.2.1] 94)))
        have hS2 : Hid (w.heap.size + 1 < wc.heap.size) := HY2.out.lt
        have hS3 : Hid (g2 < wc.heap.size) := HR8.out.lt
        have HKd : Hid (Kept w wc.drew) := Kept.trans HK8.out kd
        have HKa : Hid (Kept w (wc.alloc (.cells #[.int .i64 0, .int .i64 0, .int .i64 R.2.1] 94)).drew) := Kept.trans HK8.out ka
        have HB : Hid (∀ u, Kept wc u → (u.cell? ⟨w.heap.size, 0, none⟩ = some (slB g nc nc) ∧ u.cell? ⟨w.heap.size, 1, none⟩ = some (slB h nt nt)) ∧ u.cell? ⟨B6, 0, none⟩ = some (slB g2 R.1.length c2)) := fun u hu' => ⟨⟨(HY1.out.kept hu').cell 0, (HY1.out.kept hu').cell 1⟩, (HC8.out.kept hu').cell 0⟩
        have HY : Hid (∀ u, Kept wc u → Cells u (w.heap.size + 1) 43 zeroC) := fun u hu' => HY2.out.kept hu'
        obtain ⟨⟨b0, b1⟩, b2⟩ := HB.out _ kd
        obtain ⟨⟨e0, e1⟩, e2⟩ := HB.out _ ka
        have FIN : Hid (∀ W g0 u0 g1 u1 ga xs cp lo, Kept wc W → Cells W ga 94 #[.int .i64 0, .int .i64 0, .int .i64 R.2.1] → wc.heap.size ≤ lo → wc.heap.size ≤ ga → UntX W lo g0 g1 xs cp cs ts → (ga < lo ∨ ((g0 < ga ∧ g1 < ga) ∧ ∀ j, j < cs.length → xs j < ga)) → Hid (Cells (st12 W (w.heap.size + 1) (slB g0 nc u0) (slB g1 nt u1) (slB g2 R.1.length c2) (.int .i64 0) (.slice none 0 0) (.slice none 0 0) (.int .i64 0) (slB ga 1 1) (.slice none 0 0) (.slice none 0 0) (.bool false) (.int .i64 0)) (w.heap.size + 1) 43 #[slB g0 nc u0, slB g1 nt u1, slB g2 R.1.length c2, .int .i64 0, .slice none 0 0, .slice none 0 0, .int .i64 0, slB ga 1 1, .slice none 0 0, .slice none 0 0, .bool false, .int .i64 0]) ∧ Hid (MchX (st12 W (w.heap.size + 1) (slB g0 nc u0) (slB g1 nt u1) (slB g2 R.1.length c2) (.int .i64 0) (.slice none 0 0) (.slice none 0 0) (.int .i64 0) (slB ga 1 1) (.slice none 0 0) (.slice none 0 0) (.bool false) (.int .i64 0)) w.heap.size (st12 W (w.heap.size + 1) (slB g0 nc u0) (slB g1 nt u1) (slB g2 R.1.length c2) (.int .i64 0) (.slice none 0 0) (.slice none 0 0) (.int .i64 0) (slB ga 1 1) (.slice none 0 0) (.slice none 0 0) (.bool false) (.int .i64 0)).heap.size g0 g1 g2 ga xs cp cs ts R.1 [(0, 0, R.2.1)]) ∧ Hid (∀ W', Fro w.heap.size (st12 W (w.heap.size + 1) (slB g0 nc u0) (slB g1 nt u1) (slB g2 R.1.length c2) (.int .i64 0) (.slice none 0 0) (.slice none 0 0) (.int .i64 0) (slB ga 1 1) (.slice none 0 0) (.slice none 0 0) (.bool false) (.int .i64 0)) W' → MchA W' (resH g0 u0 g1 u1 g2 c2 ga 1) (resM cs ts R.1 [(0, 0, R.2.1)])) ∧ Hid (Kept w (st12 W (w.heap.size + 1) (slB g0 nc u0) (slB g1 nt u1) (slB g2 R.1.length c2) (.int .i64 0) (.slice none 0 0) (.slice none 0 0) (.int .i64 0) (slB ga 1 1) (.slice none 0 0) (.slice none 0 0) (.bool false) (.int .i64 0)))) := fun W g0 u0 g1 u1 ga xs cp lo hW hga hlo hgw hU hd => by
          have hS := hS2.out
          have hS' := hS3.out
          have hN8 := HN8.out
          have hsz : (st12 W (w.heap.size + 1) (slB g0 nc u0) (slB g1 nt u1) (slB g2 R.1.length c2) (.int .i64 0) (.slice none 0 0) (.slice none 0 0) (.int .i64 0) (slB ga 1 1) (.slice none 0 0) (.slice none 0 0) (.bool false) (.int .i64 0)).heap.size = W.heap.size := by simp [st12]
          have hp : ∀ x, x ≠ w.heap.size + 1 → (st12 W (w.heap.size + 1) (slB g0 nc u0) (slB g1 nt u1) (slB g2 R.1.length c2) (.int .i64 0) (.slice none 0 0) (.slice none 0 0) (.int .i64 0) (slB ga 1 1) (.slice none 0 0) (.slice none 0 0) (.bool false) (.int .i64 0)).heap[x]? = W.heap[x]? := fun x hx => st12_heap W (w.heap.size + 1) (slB g0 nc u0) (slB g1 nt u1) (slB g2 R.1.length c2) (.int .i64 0) (.slice none 0 0) (.slice none 0 0) (.int .i64 0) (slB ga 1 1) (.slice none 0 0) (.slice none 0 0) (.bool false) (.int .i64 0) hx
          have hf : Fro lo W (st12 W (w.heap.size + 1) (slB g0 nc u0) (slB g1 nt u1) (slB g2 R.1.length c2) (.int .i64 0) (.slice none 0 0) (.slice none 0 0) (.int .i64 0) (slB ga 1 1) (.slice none 0 0) (.slice none 0 0) (.bool false) (.int .i64 0)) := ⟨Nat.le_of_eq hsz.symm, fun j hj _ => hp j (by omega)⟩
          have hU2 := hU.fro hf
          have hga2 : Cells (st12 W (w.heap.size + 1) (slB g0 nc u0) (slB g1 nt u1) (slB g2 R.1.length c2) (.int .i64 0) (.slice none 0 0) (.slice none 0 0) (.int .i64 0) (slB ga 1 1) (.slice none 0 0) (.slice none 0 0) (.bool false) (.int .i64 0)) ga 94 #[.int .i64 0, .int .i64 0, .int .i64 R.2.1] := (hp ga (by omega)).trans hga
          have hr2 : Row (st12 W (w.heap.size + 1) (slB g0 nc u0) (slB g1 nt u1) (slB g2 R.1.length c2) (.int .i64 0) (.slice none 0 0) (.slice none 0 0) (.int .i64 0) (slB ga 1 1) (.slice none 0 0) (.slice none 0 0) (.bool false) (.int .i64 0)) g2 R.1 := (HR8.out.kept hW).block (hp g2 (by omega))
          have hfr : StpsA (st12 W (w.heap.size + 1) (slB g0 nc u0) (slB g1 nt u1) (slB g2 R.1.length c2) (.int .i64 0) (.slice none 0 0) (.slice none 0 0) (.int .i64 0) (slB ga 1 1) (.slice none 0 0) (.slice none 0 0) (.bool false) (.int .i64 0)) (some ⟨ga, 0, none⟩) [(0, 0, R.2.1)] := fun j s hs => by
            cases j with
            | succ j => simp at hs
            | zero =>
              simp at hs
              subst hs
              exact ⟨ga, 0, rfl, hga2.cell 0, hga2.cell 1, hga2.cell 2⟩
          have i0 := hU2.i0
          have i1 := hU2.i1
          have hgl := hga2.lt
          refine ⟨st12_cells (slB g0 nc u0) (slB g1 nt u1) (slB g2 R.1.length c2) (.int .i64 0) (.slice none 0 0) (.slice none 0 0) (.int .i64 0) (slB ga 1 1) (.slice none 0 0) (.slice none 0 0) (.bool false) (.int .i64 0) (HY.out W hW), ⟨⟨by omega, i0.2⟩, ⟨by omega, i1.2⟩, ⟨by omega, hr2.lt⟩, ⟨by omega, hgl⟩, fun j hj => ⟨by have := hU2.ix j hj; omega, (hU2.ix j hj).2⟩, hU2.mx, hU2.w, hr2.wrJ, ⟨_, hga2, fun i hi' => ?_⟩, hU2.n01, by omega, by rcases hd with h' | h' <;> omega, by omega, by rcases hd with h' | h' <;> omega, by omega, hU2.x1, fun j hj => by have := (hU2.ix j hj).1; omega, fun j hj => by have := (hU2.ix j hj).1; rcases hd with h' | h'; omega; have := h'.2 j hj; omega⟩, fun W' hf' => ?_, st12_kept (slB g0 nc u0) (slB g1 nt u1) (slB g2 R.1.length c2) (.int .i64 0) (.slice none 0 0) (.slice none 0 0) (.int .i64 0) (slB ga 1 1) (.slice none 0 0) (.slice none 0 0) (.bool false) (.int .i64 0) (Kept.trans HK8.out hW) (by omega)⟩
          · rcases (show i = 0 ∨ i = 1 ∨ i = 2 by simp at hi'; omega) with rfl | rfl | rfl
            · exact ⟨_, rfl, noSl_int _ _⟩
            · exact ⟨_, rfl, noSl_int _ _⟩
            · exact ⟨_, rfl, noSl_int _ _⟩
          · have hfl := hf'.mono (show w.heap.size ≤ lo by omega)
            have hU3 := hU2.fro hfl
            have hga3 : Cells W' ga 94 #[.int .i64 0, .int .i64 0, .int .i64 R.2.1] := hga2.fro hf' (by omega)
            refine ⟨hU3.codsA, hU3.t, (hr2.block (hf'.block g2 (by omega) hr2.lt)).ints, ⟨by simp, .inl rfl⟩, ⟨by simp, .inl rfl⟩, fun j s hs => ?_, ⟨by simp, .inl rfl⟩, fun j s hs => by simp at hs⟩
            cases j with
            | succ j => simp at hs
            | zero =>
              simp at hs
              subst hs
              exact ⟨ga, 0, rfl, hga3.cell 0, hga3.cell 1, hga3.cell 2⟩
        go_cut [5] from 36 to 42 (fun b wx => b = .bool true ∧ ∃ g0 u0 g1 u1 ga xs cp, Hid (Cells wx (w.heap.size + 1) 43 #[slB g0 nc u0, slB g1 nt u1, slB g2 R.1.length c2, .int .i64 0, .slice none 0 0, .slice none 0 0, .int .i64 0, slB ga 1 1, .slice none 0 0, .slice none 0 0, .bool false, .int .i64 0]) ∧ Hid (MchX wx w.heap.size wx.heap.size g0 g1 g2 ga xs cp cs ts R.1 [(0, 0, R.2.1)]) ∧ Hid (∀ W', Fro w.heap.size wx W' → MchA W' (resH g0 u0 g1 u1 g2 c2 ga 1) (resM cs ts R.1 [(0, 0, R.2.1)])) ∧ Hid (Kept w wx))
        case first =>
          go_region_with (first
            | (go_at_call 56; refine (HLU.out _ HKd.out).mono ?_; rintro e w4 ⟨g0, u0, g1, u1, xs, cp, rfl, U4, k4⟩; have kk : Kept wc w4 := kd.trans k4; have tk := True.intro; have yy : Cells w4 (w.heap.size + 1) 43 zeroC := HY.out _ kk; have ya : Cells (w4.alloc (.cells #[.int .i64 0, .int .i64 0, .int .i64 R.2.1] 94)) (w.heap.size + 1) 43 zeroC := HY.out _ (Kept.alloc kk _); have y0 : w4.cell? ⟨w.heap.size + 1, 0, none⟩ = some (.slice none 0 0) := yy.cell 0; have yf0 := yy.frozen 0; have x0 : (w4.alloc (.cells #[.int .i64 0, .int .i64 0, .int .i64 R.2.1] 94)).cell? ⟨w.heap.size + 1, 0, none⟩ = some (.slice none 0 0) := ya.cell 0; have xf0 := ya.frozen 0; have y1 : w4.cell? ⟨w.heap.size + 1, 1, none⟩ = some (.slice none 0 0) := yy.cell 1; have yf1 := yy.frozen 1; have x1 : (w4.alloc (.cells #[.int .i64 0, .int .i64 0, .int .i64 R.2.1] 94)).cell? ⟨w.heap.size + 1, 1, none⟩ = some (.slice none 0 0) := ya.cell 1; have xf1 := ya.frozen 1; have y2 : w4.cell? ⟨w.heap.size + 1, 2, none⟩ = some (.slice none 0 0) := yy.cell 2; have yf2 := yy.frozen 2; have x2 : (w4.alloc (.cells #[.int .i64 0, .int .i64 0, .int .i64 R.2.1] 94)).cell? ⟨w.heap.size + 1, 2, none⟩ = some (.slice none 0 0) := ya.cell 2; have xf2 := ya.frozen 2; have y3 : w4.cell? ⟨w.heap.size + 1, 3, none⟩ = some (.int .i64 0) := yy.cell 3; have yf3 := yy.frozen 3; have x3 : (w4.alloc (.cells #[.int .i64 0, .int .i64 0, .int .i64 R.2.1] 94)).cell? ⟨w.heap.size + 1, 3, none⟩ = some (.int .i64 0) := ya.cell 3; have xf3 := ya.frozen 3; have y4 : w4.cell? ⟨w.heap.size + 1, 4, none⟩ = some (.slice none 0 0) := yy.cell 4; have yf4 := yy.frozen 4; have x4 : (w4.alloc (.cells #[.int .i64 0, .int .i64 0, .int .i64 R.2.1] 94)).cell? ⟨w.heap.size + 1, 4, none⟩ = some (.slice none 0 0) := ya.cell 4; have xf4 := ya.frozen 4; have y5 : w4.cell? ⟨w.heap.size + 1, 5, none⟩ = some (.slice none 0 0) := yy.cell 5; have yf5 := yy.frozen 5; have x5 : (w4.alloc (.cells #[.int .i64 0, .int .i64 0, .int .i64 R.2.1] 94)).cell? ⟨w.heap.size + 1, 5, none⟩ = some (.slice none 0 0) := ya.cell 5; have xf5 := ya.frozen 5; have y6 : w4.cell? ⟨w.heap.size + 1, 6, none⟩ = some (.int .i64 0) := yy.cell 6; have yf6 := yy.frozen 6; have x6 : (w4.alloc (.cells #[.int .i64 0, .int .i64 0, .int .i64 R.2.1] 94)).cell? ⟨w.heap.size + 1, 6, none⟩ = some (.int .i64 0) := ya.cell 6; have xf6 := ya.frozen 6; have y7 : w4.cell? ⟨w.heap.size + 1, 7, none⟩ = some (.slice none 0 0) := yy.cell 7; have yf7 := yy.frozen 7; have x7 : (w4.alloc (.cells #[.int .i64 0, .int .i64 0, .int .i64 R.2.1] 94)).cell? ⟨w.heap.size + 1, 7, none⟩ = some (.slice none 0 0) := ya.cell 7; have xf7 := ya.frozen 7; have y8 : w4.cell? ⟨w.heap.size + 1, 8, none⟩ = some (.slice none 0 0) := yy.cell 8; have yf8 := yy.frozen 8; have x8 : (w4.alloc (.cells #[.int .i64 0, .int .i64 0, .int .i64 R.2.1] 94)).cell? ⟨w.heap.size + 1, 8, none⟩ = some (.slice none 0 0) := ya.cell 8; have xf8 := ya.frozen 8; have y9 : w4.cell? ⟨w.heap.size + 1, 9, none⟩ = some (.slice none 0 0) := yy.cell 9; have yf9 := yy.frozen 9; have x9 : (w4.alloc (.cells #[.int .i64 0, .int .i64 0, .int .i64 R.2.1] 94)).cell? ⟨w.heap.size + 1, 9, none⟩ = some (.slice none 0 0) := ya.cell 9; have xf9 := ya.frozen 9; have y10 : w4.cell? ⟨w.heap.size + 1, 10, none⟩ = some (.bool false) := yy.cell 10; have yf10 := yy.frozen 10; have x10 : (w4.alloc (.cells #[.int .i64 0, .int .i64 0, .int .i64 R.2.1] 94)).cell? ⟨w.heap.size + 1, 10, none⟩ = some (.bool false) := ya.cell 10; have xf10 := ya.frozen 10; have y11 : w4.cell? ⟨w.heap.size + 1, 11, none⟩ = some (.int .i64 0) := yy.cell 11; have yf11 := yy.frozen 11; have x11 : (w4.alloc (.cells #[.int .i64 0, .int .i64 0, .int .i64 R.2.1] 94)).cell? ⟨w.heap.size + 1, 11, none⟩ = some (.int .i64 0) := ya.cell 11; have xf11 := ya.frozen 11; obtain ⟨⟨m0, m1⟩, m2⟩ := HB.out _ kk; obtain ⟨⟨n0, n1⟩, n2⟩ := HB.out (w4.alloc (.cells #[.int .i64 0, .int .i64 0, .int .i64 R.2.1] 94)) (Kept.alloc kk _))
            | (go_at_call 56; refine (HLU.out _ HKa.out).mono ?_; rintro e w4 ⟨g0, u0, g1, u1, xs, cp, rfl, U4, k4⟩; have kk : Kept wc w4 := ka.trans k4; have yg : Cells w4 wc.heap.size 94 #[.int .i64 0, .int .i64 0, .int .i64 R.2.1] := ((Cells.new wc.drew 94 #[.int .i64 0, .int .i64 0, .int .i64 R.2.1]) : Cells (wc.alloc (.cells #[.int .i64 0, .int .i64 0, .int .i64 R.2.1] 94)).drew wc.heap.size 94 _).kept k4; have yy : Cells w4 (w.heap.size + 1) 43 zeroC := HY.out _ kk; have ya : Cells (w4.alloc (.cells #[.int .i64 0, .int .i64 0, .int .i64 R.2.1] 94)) (w.heap.size + 1) 43 zeroC := HY.out _ (Kept.alloc kk _); have y0 : w4.cell? ⟨w.heap.size + 1, 0, none⟩ = some (.slice none 0 0) := yy.cell 0; have yf0 := yy.frozen 0; have x0 : (w4.alloc (.cells #[.int .i64 0, .int .i64 0, .int .i64 R.2.1] 94)).cell? ⟨w.heap.size + 1, 0, none⟩ = some (.slice none 0 0) := ya.cell 0; have xf0 := ya.frozen 0; have y1 : w4.cell? ⟨w.heap.size + 1, 1, none⟩ = some (.slice none 0 0) := yy.cell 1; have yf1 := yy.frozen 1; have x1 : (w4.alloc (.cells #[.int .i64 0, .int .i64 0, .int .i64 R.2.1] 94)).cell? ⟨w.heap.size + 1, 1, none⟩ = some (.slice none 0 0) := ya.cell 1; have xf1 := ya.frozen 1; have y2 : w4.cell? ⟨w.heap.size + 1, 2, none⟩ = some (.slice none 0 0) := yy.cell 2; have yf2 := yy.frozen 2; have x2 : (w4.alloc (.cells #[.int .i64 0, .int .i64 0, .int .i64 R.2.1] 94)).cell? ⟨w.heap.size + 1, 2, none⟩ = some (.slice none 0 0) := ya.cell 2; have xf2 := ya.frozen 2; have y3 : w4.cell? ⟨w.heap.size + 1, 3, none⟩ = some (.int .i64 0) := yy.cell 3; have yf3 := yy.frozen 3; have x3 : (w4.alloc (.cells #[.int .i64 0, .int .i64 0, .int .i64 R.2.1] 94)).cell? ⟨w.heap.size + 1, 3, none⟩ = some (.int .i64 0) := ya.cell 3; have xf3 := ya.frozen 3; have y4 : w4.cell? ⟨w.heap.size + 1, 4, none⟩ = some (.slice none 0 0) := yy.cell 4; have yf4 := yy.frozen 4; have x4 : (w4.alloc (.cells #[.int .i64 0, .int .i64 0, .int .i64 R.2.1] 94)).cell? ⟨w.heap.size + 1, 4, none⟩ = some (.slice none 0 0) := ya.cell 4; have xf4 := ya.frozen 4; have y5 : w4.cell? ⟨w.heap.size + 1, 5, none⟩ = some (.slice none 0 0) := yy.cell 5; have yf5 := yy.frozen 5; have x5 : (w4.alloc (.cells #[.int .i64 0, .int .i64 0, .int .i64 R.2.1] 94)).cell? ⟨w.heap.size + 1, 5, none⟩ = some (.slice none 0 0) := ya.cell 5; have xf5 := ya.frozen 5; have y6 : w4.cell? ⟨w.heap.size + 1, 6, none⟩ = some (.int .i64 0) := yy.cell 6; have yf6 := yy.frozen 6; have x6 : (w4.alloc (.cells #[.int .i64 0, .int .i64 0, .int .i64 R.2.1] 94)).cell? ⟨w.heap.size + 1, 6, none⟩ = some (.int .i64 0) := ya.cell 6; have xf6 := ya.frozen 6; have y7 : w4.cell? ⟨w.heap.size + 1, 7, none⟩ = some (.slice none 0 0) := yy.cell 7; have yf7 := yy.frozen 7; have x7 : (w4.alloc (.cells #[.int .i64 0, .int .i64 0, .int .i64 R.2.1] 94)).cell? ⟨w.heap.size + 1, 7, none⟩ = some (.slice none 0 0) := ya.cell 7; have xf7 := ya.frozen 7; have y8 : w4.cell? ⟨w.heap.size + 1, 8, none⟩ = some (.slice none 0 0) := yy.cell 8; have yf8 := yy.frozen 8; have x8 : (w4.alloc (.cells #[.int .i64 0, .int .i64 0, .int .i64 R.2.1] 94)).cell? ⟨w.heap.size + 1, 8, none⟩ = some (.slice none 0 0) := ya.cell 8; have xf8 := ya.frozen 8; have y9 : w4.cell? ⟨w.heap.size + 1, 9, none⟩ = some (.slice none 0 0) := yy.cell 9; have yf9 := yy.frozen 9; have x9 : (w4.alloc (.cells #[.int .i64 0, .int .i64 0, .int .i64 R.2.1] 94)).cell? ⟨w.heap.size + 1, 9, none⟩ = some (.slice none 0 0) := ya.cell 9; have xf9 := ya.frozen 9; have y10 : w4.cell? ⟨w.heap.size + 1, 10, none⟩ = some (.bool false) := yy.cell 10; have yf10 := yy.frozen 10; have x10 : (w4.alloc (.cells #[.int .i64 0, .int .i64 0, .int .i64 R.2.1] 94)).cell? ⟨w.heap.size + 1, 10, none⟩ = some (.bool false) := ya.cell 10; have xf10 := ya.frozen 10; have y11 : w4.cell? ⟨w.heap.size + 1, 11, none⟩ = some (.int .i64 0) := yy.cell 11; have yf11 := yy.frozen 11; have x11 : (w4.alloc (.cells #[.int .i64 0, .int .i64 0, .int .i64 R.2.1] 94)).cell? ⟨w.heap.size + 1, 11, none⟩ = some (.int .i64 0) := ya.cell 11; have xf11 := ya.frozen 11; obtain ⟨⟨m0, m1⟩, m2⟩ := HB.out _ kk; obtain ⟨⟨n0, n1⟩, n2⟩ := HB.out (w4.alloc (.cells #[.int .i64 0, .int .i64 0, .int .i64 R.2.1] 94)) (Kept.alloc kk _)))
          all_goals (
            go_wp2_with fail
            go_meet
            first
              | (have q := FIN.out w4 g0 u0 g1 u1 wc.heap.size xs cp (wc.heap.size + 1) kk yg (by omega) (Nat.le_refl _) (by have := U4; simp only [World.drew] at this; simpa using this) (.inl (by omega))
                 exact ⟨rfl, g0, u0, g1, u1, wc.heap.size, xs, cp, q⟩)
              | (have q := FIN.out (w4.alloc (.cells #[.int .i64 0, .int .i64 0, .int .i64 R.2.1] 94)) g0 u0 g1 u1 w4.heap.size xs cp wc.heap.size (Kept.alloc kk _) (Cells.new _ _ _) (Nat.le_refl _) kk.size (UntX.fro U4 (Fro.kept (Kept.alloc (Below.refl _ _) _))) (.inr ⟨⟨U4.i0.2, U4.i1.2⟩, fun j hj => (U4.ix j hj).2⟩)
                 exact ⟨rfl, g0, u0, g1, u1, w4.heap.size, xs, cp, q⟩))
        case rest =>
        obtain ⟨rfl, g0, u0, g1, u1, ga, xs, cp, HM, HMX, HMA, HKW⟩ := hcut
        clear b0 b1 b2 e0 e1 e2
        have z0 := HM.out.cell 0
        have z1 := HM.out.cell 1
        have z2 := HM.out.cell 2
        have z3 := HM.out.cell 3
        have z4 := HM.out.cell 4
        have z5 := HM.out.cell 5
        have z6 := HM.out.cell 6
        have z7 := HM.out.cell 7
        have z8 := HM.out.cell 8
        have z9 := HM.out.cell 9
        have z10 := HM.out.cell 10
        have z11 := HM.out.cell 11
        go_wp2_with fail
        refine bodyPost_ret (v := .tuple #[.agg #[slB g0 nc u0, slB g1 nt u1, slB g2 R.1.length c2, .int .i64 0, .slice none 0 0, .slice none 0 0, .int .i64 0, slB ga 1 1, .slice none 0 0, .slice none 0 0, .bool false, .int .i64 0], .bool true]) (by simp [results, Tryz.results16, go_sem, z0, z1, z2, z3, z4, z5, z6, z7, z8, z9, z10, z11]) rfl ⟨fun hh => (by rw [HE.out] at hh; cases hh), fun _ => ⟨g0, u0, g1, u1, g2, c2, ga, xs, cp, ?_, ?_, ?_⟩, HKW.out⟩
        · simp only [Int.toNat_natCast, HR.out.2.1, resC, HNN.out.1, HNN.out.2]
          rfl
        · simp only [Int.toNat_natCast, HR.out.2.1]
          exact HMX.out
        · simp only [Int.toNat_natCast, HR.out.2.1]
          exact HMA.out
end Go.Proofs.YtgempjjnfpmndaaGreatDoor
namespace Go.Proofs.YtgempjjnfpmndaaGreatDoor
open Go.RowKit
set_option linter.unusedSimpArgs false
set_option linter.unusedVariables false
/-- A machine of one's own: one that is made, or none. -/
def OwnM (W : World) (lo hi : Nat) (h : MchH) (M : Mch) : Prop := mchC h M = zeroC ∨ ∃ g0 u0 g1 u1 g2 c2 ga c5 xs cp cs ts zs fs, mchC h M = resC g0 u0 g1 u1 g2 c2 ga c5 cs ts zs fs ∧ MchX W lo hi g0 g1 g2 ga xs cp cs ts zs fs ∧ ResLe cs ts zs fs
/-- Its marks stand in it. -/
def HeldM (W : World) (h : MchH) (M : Mch) (tot : Nat) : Prop := (mchC h M = zeroC ∧ tot = 1) ∨ ∃ g0 u0 g1 u1 g2 c2 ga c5 xs cp cs ts zs fs, mchC h M = resC g0 u0 g1 u1 g2 c2 ga c5 cs ts zs fs ∧ MM W g0 g1 g2 ga xs cp cs ts zs fs ∧ ResLe cs ts zs fs ∧ tot = k4M cs ts zs fs
theorem OwnM.tr {W W' : World} {a b lo hi : Nat} {h : MchH} {M : Mch} (x : OwnM W lo hi h M) (k : Tr a b W W') : OwnM W' lo hi h M := by
  rcases x with x | ⟨g0, u0, g1, u1, g2, c2, ga, c5, xs, cp, cs, ts, zs, fs, e, hX, hL⟩
  · exact .inl x
  · exact .inr ⟨g0, u0, g1, u1, g2, c2, ga, c5, xs, cp, cs, ts, zs, fs, e, hX.tr k, hL⟩
theorem HeldM.kept {W W' : World} {h : MchH} {M : Mch} {tot : Nat} (x : HeldM W h M tot) (k : Kept W W') : HeldM W' h M tot := by
  rcases x with x | ⟨g0, u0, g1, u1, g2, c2, ga, c5, xs, cp, cs, ts, zs, fs, e, hX, hL, ht⟩
  · exact .inl x
  · exact .inr ⟨g0, u0, g1, u1, g2, c2, ga, c5, xs, cp, cs, ts, zs, fs, e, hX.kept k, hL, ht⟩
theorem markOwnM_ok (w : World) (lo hi : Nat) (h : MchH) (M : Mch) (hO : OwnM w lo hi h M) (hhi : hi ≤ w.heap.size) :
    Calls Tryz.prog 19 #[.agg (mchC h M), .int .i64 1] w fun e w' => ∃ tot : Nat, e = .returned (.int .i64 (tot : Int)) ∧ Tr lo hi w w' ∧ HeldM w' h M tot := by
  rcases hO with e0 | ⟨g0, u0, g1, u1, g2, c2, ga, c5, xs, cp, cs, ts, zs, fs, e0, hX, hL⟩
  · rw [e0]
    refine (markMachine0_ok w).mono ?_
    rintro e w' ⟨rfl, k⟩
    exact ⟨1, rfl, Tr.of k, .inl ⟨e0, rfl⟩⟩
  · rw [e0]
    refine (markMachine_x w lo hi g0 u0 g1 u1 g2 c2 ga c5 xs cp cs ts zs fs hX hL hhi).mono ?_
    rintro e w' ⟨rfl, k, m⟩
    exact ⟨_, rfl, k, .inr ⟨g0, u0, g1, u1, g2, c2, ga, c5, xs, cp, cs, ts, zs, fs, e0, m, hL, rfl⟩⟩
theorem heldOwnM_ok (w : World) (h : MchH) (M : Mch) (tot : Nat) (hO : HeldM w h M tot) :
    Calls Tryz.prog 20 #[.agg (mchC h M), .int .i64 1] w fun e w' => e = .returned (.int .i64 (tot : Int)) ∧ Kept w w' := by
  rcases hO with ⟨e0, rfl⟩ | ⟨g0, u0, g1, u1, g2, c2, ga, c5, xs, cp, cs, ts, zs, fs, e0, hX, hL, rfl⟩
  · rw [e0]
    exact heldMachine0_ok w
  · rw [e0]
    exact heldMachine_x w g0 u0 g1 u1 g2 c2 ga c5 xs cp cs ts zs fs hX hL
theorem newS_len {cs : List Cod} {n : Nat} : (newS cs n).1.length = n := by unfold newS; rw [scoC_len, newL_len]
theorem impl_new_ok (w : World) (g h : Nat) (cs : List Cod) (ts : List ByteArray) (n : Int) (hnw : (Lit.int .i64 n).wf = true) (hC : CodX w g cs) (hT : RowT w h ts ts.length) (hl : cs.length ≤ 1048576) (hi : ∀ c ∈ cs, c.ss.length ≤ 1048576) (hs : sumC cs ≤ 1048576) (ht : ts.length ≤ 1048576) (hFm : Forms w) :
    Calls Tryz.prog 16 #[.agg #[slB g cs.length cs.length, slB h ts.length ts.length], .int .i64 n] w fun e w' => ∃ hI, e = .returned (.tuple #[.agg (mchC hI (newM cs ts n)), .bool (newO cs ts n)]) ∧ OwnM w' w.heap.size w'.heap.size hI (newM cs ts n) ∧ (∀ W', Fro w.heap.size w' W' → MchA W' hI (newM cs ts n)) ∧ Kept w w' := by
  refine (impl_MachineNew_ok w g h cs ts n hnw hC hT hl hi ht hFm).mono ?_
  rintro e w' ⟨h1, h2, k⟩
  cases ho : newO cs ts n with
  | false =>
    have eM : newM cs ts n = resM [] [] [] [] := by rw [newM, ho]; rfl
    rw [eM]
    exact ⟨zeroH, h1 ho, .inl rfl, fun W' _ => zeroA W', k⟩
  | true =>
    obtain ⟨g0, u0, g1, u1, g2, c2, ga, xs, cp, e1, e2, e3⟩ := h2 ho
    have eM : newM cs ts n = resM cs ts (newS cs n.toNat).1 [(0, 0, (newS cs n.toNat).2.1)] := by rw [newM, ho, if_pos rfl]
    have hn : 2 ≤ n ∧ n ≤ 2000 := by
      unfold newO at ho
      simp only [Bool.and_eq_true, decide_eq_true_eq] at ho
      exact ho.1
    rw [eM]
    exact ⟨resH g0 u0 g1 u1 g2 c2 ga 1, e1, .inr ⟨g0, u0, g1, u1, g2, c2, ga, 1, xs, cp, cs, ts, _, _, rfl, e2, ⟨hl, hs, ht, by rw [newS_len]; omega, by simp⟩⟩, e3, k⟩
end Go.Proofs.YtgempjjnfpmndaaGreatDoor
