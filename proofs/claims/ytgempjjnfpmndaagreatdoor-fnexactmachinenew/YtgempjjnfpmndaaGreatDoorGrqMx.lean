/-
  What the laws lay as marks into rows of one's own, exactly told: each cell holds its mark, and one block alone is turned.
  The laws' marks of rows of one's own are found again: heldIntS, heldStringS, heldStepS, heldFrameS; marks of codes exactly, and heldCodeS.
  The laws' marks of units, slabs and machines of one's own, exactly told, and found again (machines as they are made: no marker, no stack, no lines).
  The laws' marks of a machine as it is made (no marker, no stack, no lines), exactly told, and found again.
  The laws' marks of a machine that is none (all of it zero).
-/
import Derived.Deep.CutRange
import Derived.Test.YtgempjjnfpmndaaGreatDoorGrqTr
import Derived.Test.YtgempjjnfpmndaaGreatDoorSeq
import Derived.Test.YtgempjjnfpmndaaGreatDoorZMwkB
namespace Go.Proofs.YtgempjjnfpmndaaGreatDoor
open Go.RowKit
set_option linter.unusedSimpArgs false
set_option linter.unusedVariables false
/-- The first n cells of a block are no slices. -/
def WrJ (W : World) (g : Nat) (t : TypeId) (n : Nat) : Prop := ∃ cs, Cells W g t cs ∧ ∀ i, i < n → ∃ v, cs[i]? = some v ∧ NoSl v
theorem WrJ.tr {lo hi : Nat} {a b : World} {g : Nat} {t : TypeId} {n : Nat} (h : WrJ a g t n) (k : Tr lo hi a b) : WrJ b g t n := by
  obtain ⟨cs, h1, h3⟩ := h
  obtain ⟨c2, k1, k2, k3⟩ := k.shp g t cs h1
  refine ⟨c2, k1, fun i hi => ?_⟩
  obtain ⟨v, hv, n1⟩ := h3 i hi
  obtain ⟨v', e, n2, _⟩ := k3 i v hv
  exact ⟨v', e, n2 n1⟩
theorem WrJ.lt {W : World} {g : Nat} {t : TypeId} {n : Nat} (h : WrJ W g t n) : g < W.heap.size := by
  obtain ⟨cs, h1, _⟩ := h
  exact h1.lt
theorem WrJ.at' {W : World} {g : Nat} {t : TypeId} {n i : Nat} (h : WrJ W g t n) (hi : i < n) : ∃ v, W.cell? ⟨g, i, none⟩ = some v ∧ NoSl v ∧ W.frozen? ⟨g, i, none⟩ = false := by
  obtain ⟨cs, h1, h3⟩ := h
  obtain ⟨v, hv, nv⟩ := h3 i hi
  exact ⟨v, by rw [h1.cell]; exact hv, nv, h1.frozen i⟩
theorem WrI.j {W : World} {g : Nat} {t : TypeId} {n : Nat} (h : WrI W g t n) : WrJ W g t n := by
  obtain ⟨cs, h1, h2, h3⟩ := h
  exact ⟨cs, h1, fun i hi => ⟨cs[i], Array.getElem?_eq_getElem (by omega), h3 i _ (Array.getElem?_eq_getElem (by omega))⟩⟩
/-- The first n cells of the block g hold f 0, f 1, .. -/
def MX (f : Nat → Value) (W : World) (g n : Nat) : Prop := ∀ i, i < n → W.cell? ⟨g, i, none⟩ = some (f i)
abbrev fI (k : Nat) : Nat → Value := fun i => .int .i64 ((i : Int) + (k : Int))
abbrev fS (k : Nat) : Nat → Value := fun i => .string (mkM (i + k))
theorem MX.zero (f : Nat → Value) (W : World) (g : Nat) : MX f W g 0 := fun i hi => by omega
theorem MX.kept {f : Nat → Value} {W W' : World} {g n : Nat} (h : MX f W g n) (k : Kept W W') : MX f W' g n := fun i hi => cellK k (h i hi)
theorem MX.tr {f : Nat → Value} {lo hi : Nat} {W W' : World} {g n : Nat} (h : MX f W g n) (k : Tr lo hi W W') (hne : ¬ (lo ≤ g ∧ g < hi)) : MX f W' g n := fun i hi' => by
  have h1 := h i hi'
  have h2 := World.block_lt_of_cell? _ _ h1
  have h3 := k.block g h2 hne
  simp only [World.cell?] at h1 ⊢
  rw [h3]
  exact h1
theorem MX.set {f : Nat → Value} {W : World} {g j n : Nat} {t : TypeId} (h : MX f W g j) (hW : WrJ W g t n) (hj : j < n) {v : Value} (hv : v = f j) : MX f (W.setCell ⟨g, j, none⟩ v) g (j + 1) := by
  obtain ⟨cs, h1, h3⟩ := hW
  obtain ⟨u, hu, _⟩ := h3 j hj
  have hz : j < cs.size := (Array.getElem?_eq_some_iff.1 hu).1
  intro i hi
  rw [(h1.set j v).cell, Array.getElem?_setIfInBounds]
  by_cases e : j = i
  · subst e
    rw [if_pos rfl, if_pos hz, hv]
  · rw [if_neg e, ← h1.cell]
    exact h i (by omega)
theorem tr_block {g : Nat} {a b : World} (h : Tr g (g + 1) a b) {lo hi : Nat} (hl : lo ≤ g) (hh : g < hi) : Tr lo hi a b := ⟨h.os, h.tape, h.output, h.size, fun j hj hn => h.block j hj (fun e => hn (by omega)), h.shp⟩
theorem cell_tr {lo hi : Nat} {W W' : World} (k : Tr lo hi W W') {g i : Nat} {v : Value} (h : W.cell? ⟨g, i, none⟩ = some v) (hne : ¬ (lo ≤ g ∧ g < hi)) : W'.cell? ⟨g, i, none⟩ = some v := by
  have h2 := World.block_lt_of_cell? _ _ h
  have h3 := k.block g h2 hne
  simp only [World.cell?] at h ⊢
  rw [h3]
  exact h
set_option maxHeartbeats 8000000 in
set_option maxRecDepth 100000 in
theorem markIntS_x (w : World) (g cap n k : Nat) (hR : WrJ w g 3 n) (hn : n ≤ 1048576) (hk : k ≤ 90000000) :
    Calls Tryz.prog 63 #[.slice (some ⟨g, 0, none⟩) n cap, .int .i64 (k : Int)] w fun e w' => e = .returned (.int .i64 ((n : Int) + (k : Int))) ∧ Tr g (g + 1) w w' ∧ MX (fI k) w' g n := by
  have HR : Hid _ := hR
  clear hR
  go_enter Tryz.func63, Tryz.ntmps63
  go_wp2_with fail
  go_loopw [1, 5] (fun mv iv wr => ∃ j : Nat, iv = .int .i64 j ∧ mv = .int .i64 (((j : Nat) : Int) + (k : Int)) ∧ j ≤ n ∧ Hid (Tr g (g + 1) w wr) ∧ Hid (MX (fI k) wr g j)) (fun _ i _ => n - (intOf i).toNat)
  case atStart => exact ⟨0, rfl, by simp, Nat.zero_le _, Tr.refl _ _ _, MX.zero _ _ _⟩
  case round =>
    obtain ⟨j, rfl, rfl, hj, HT, HM⟩ := hrel
    by_cases hlt : j < n
    · have hlt' : (j : Int) < (n : Int) := by omega
      have HW : Hid (WrJ wr g 3 n) := WrJ.tr HR.out HT.out
      obtain ⟨v0, c0, n0, f0⟩ := WrJ.at' HW.out (i := j) hlt
      go_wp2_with fail
      go_roundw
      case rel => exact ⟨j + 1, by go_num, by go_num, by omega, Tr.set HT.out ⟨Nat.le_refl _, Nat.lt_succ_self _⟩ c0 n0 (noSl_int _ _), MX.set HM.out HW.out hlt rfl⟩
      case measure => simp [intOf]; omega
    · obtain rfl : j = n := by omega
      go_wp2_with fail
      go_ret
      exact ⟨rfl, HT.out, HM.out⟩
theorem markInt0_ok (w : World) (ao : Option Addr) (cap k : Nat) :
    Calls Tryz.prog 63 #[.slice ao 0 cap, .int .i64 (k : Int)] w fun e w' => e = .returned (.int .i64 (k : Int)) ∧ w = w' := by
  go_enter Tryz.func63, Tryz.ntmps63
  go_wp2_with fail
  go_loopw [1, 5] (fun m i wr => i = .int .i64 0 ∧ m = .int .i64 (k : Int) ∧ w = wr) (fun _ _ _ => 0)
  case atStart => exact ⟨rfl, rfl, rfl⟩
  case round =>
    obtain ⟨rfl, rfl, rfl⟩ := hrel
    go_wp2
    go_ret
    exact ⟨rfl, rfl⟩
set_option maxHeartbeats 8000000 in
set_option maxRecDepth 100000 in
theorem markStringS_x (w : World) (g cap n k : Nat) (hR : WrJ w g 9 n) (hn : n ≤ 1048576) (hk1 : 1 ≤ k) (hk : k ≤ 90000000) :
    Calls Tryz.prog 59 #[.slice (some ⟨g, 0, none⟩) n cap, .int .i64 (k : Int)] w fun e w' => e = .returned (.int .i64 ((n : Int) + (k : Int))) ∧ Tr g (g + 1) w w' ∧ MX (fS k) w' g n := by
  have HR : Hid _ := hR
  clear hR
  go_enter Tryz.func59, Tryz.ntmps59
  go_wp2_with fail
  go_loopw [1, 5] (fun mv iv wr => ∃ j : Nat, iv = .int .i64 j ∧ mv = .int .i64 (((j : Nat) : Int) + (k : Int)) ∧ j ≤ n ∧ Hid (Tr g (g + 1) w wr) ∧ Hid (MX (fS k) wr g j)) (fun _ i _ => n - (intOf i).toNat)
  case atStart => exact ⟨0, rfl, by simp, Nat.zero_le _, Tr.refl _ _ _, MX.zero _ _ _⟩
  case round =>
    obtain ⟨j, rfl, rfl, hj, HT, HX⟩ := hrel
    by_cases hlt : j < n
    · have hlt' : (j : Int) < (n : Int) := by omega
      have HW : Hid (WrJ wr g 9 n) := WrJ.tr HR.out HT.out
      obtain ⟨v0, c0, n0, f0⟩ := WrJ.at' HW.out (i := j) hlt
      have hM := markTextN_ok wr (j + k) (by omega) (by omega)
      rw [Int.natCast_add] at hM
      go_wp2_with (go_at_call 113; refine hM.mono ?_; rintro e w1 ⟨rfl, hk1⟩; have HW1 : Hid (WrJ w1 g 9 n) := WrJ.tr HW.out (Tr.of (lo := g) (hi := g + 1) hk1); obtain ⟨v1, c1, n1, f1⟩ := WrJ.at' HW1.out (i := j) hlt)
      go_roundw
      case rel => exact ⟨j + 1, by go_num, by go_num, by omega, Tr.set (HT.out.trans (Tr.of hk1)) ⟨Nat.le_refl _, Nat.lt_succ_self _⟩ c1 n1 (noSl_str _), MX.set (MX.kept HX.out hk1) HW1.out hlt rfl⟩
      case measure => simp [intOf]; omega
    · obtain rfl : j = n := by omega
      go_wp2_with fail
      go_ret
      exact ⟨rfl, HT.out, HX.out⟩
theorem markString0_ok (w : World) (ao : Option Addr) (cap k : Nat) :
    Calls Tryz.prog 59 #[.slice ao 0 cap, .int .i64 (k : Int)] w fun e w' => e = .returned (.int .i64 (k : Int)) ∧ w = w' := by
  go_enter Tryz.func59, Tryz.ntmps59
  go_wp2_with fail
  go_loopw [1, 5] (fun m i wr => i = .int .i64 0 ∧ m = .int .i64 (k : Int) ∧ w = wr) (fun _ _ _ => 0)
  case atStart => exact ⟨rfl, rfl, rfl⟩
  case round =>
    obtain ⟨rfl, rfl, rfl⟩ := hrel
    go_wp2
    go_ret
    exact ⟨rfl, rfl⟩
set_option maxHeartbeats 8000000 in
set_option maxRecDepth 100000 in
theorem markStepS_x (w : World) (g cap n k : Nat) (hR : WrJ w g 131 (n * 3)) (hn : n ≤ 1048576) (hk : k ≤ 90000000) :
    Calls Tryz.prog 112 #[.slice (some ⟨g, 0, none⟩) n cap, .int .i64 (k : Int)] w fun e w' => e = .returned (.int .i64 (((n * 3 : Nat) : Int) + (k : Int))) ∧ Tr g (g + 1) w w' ∧ MX (fI k) w' g (n * 3) := by
  have HR : Hid _ := hR
  clear hR
  go_enter Tryz.func112, Tryz.ntmps112
  go_wp2_with fail
  go_loopw [1, 5] (fun mv iv wr => ∃ j : Nat, iv = .int .i64 j ∧ mv = .int .i64 (((j * 3 : Nat) : Int) + (k : Int)) ∧ j ≤ n ∧ Hid (Tr g (g + 1) w wr) ∧ Hid (MX (fI k) wr g (j * 3))) (fun _ i _ => n - (intOf i).toNat)
  case atStart => exact ⟨0, rfl, by simp, Nat.zero_le _, Tr.refl _ _ _, MX.zero _ _ _⟩
  case round =>
    obtain ⟨j, rfl, rfl, hj, HT, HX⟩ := hrel
    by_cases hlt : j < n
    · have hlt' : (j : Int) < (n : Int) := by omega
      obtain ⟨q, hq⟩ : ∃ q : Nat, j * 3 + k = q := ⟨_, rfl⟩
      have eq0 : ((j * 3 : Nat) : Int) + (k : Int) = (q : Int) := by omega
      rw [eq0]
      have hq2 : q ≤ 99000000 := by omega
      have HQ : Hid (j * 3 + k = q) := hq
      have t0 : Tr g (g + 1) w wr := HT.out
      have hg : g ≤ g ∧ g < g + 1 := ⟨Nat.le_refl _, Nat.lt_succ_self _⟩
      have r0 := WrJ.tr HR.out t0
      obtain ⟨v0, c0, n0, f0⟩ := WrJ.at' r0 (i := j * 3) (by omega)
      have t1 := t0.set hg c0 n0 (noSl_int .i64 (q : Int))
      have x1 := MX.set HX.out r0 (j := j * 3) (by omega) (v := .int .i64 (q : Int)) (by simp only [fI]; rw [eq0])
      have r1 := WrJ.tr HR.out t1
      obtain ⟨v1, c1, n1, f1⟩ := WrJ.at' r1 (i := j * 3 + 1) (by omega)
      have t2 := t1.set hg c1 n1 (noSl_int .i64 ((q : Int) + 1))
      have x2 := MX.set x1 r1 (j := j * 3 + 1) (by omega) (v := .int .i64 ((q : Int) + 1)) (by simp only [fI]; congr 1; omega)
      have r2 := WrJ.tr HR.out t2
      obtain ⟨v2, c2, n2, f2⟩ := WrJ.at' r2 (i := j * 3 + 2) (by omega)
      have HT3 : Hid (Tr g (g + 1) w ((((wr.setCell ⟨g, j * 3, none⟩ (.int .i64 (q : Int))).setCell ⟨g, j * 3 + 1, none⟩ (.int .i64 ((q : Int) + 1))).setCell ⟨g, j * 3 + 2, none⟩ (.int .i64 ((q : Int) + 2))))) := t2.set hg c2 n2 (noSl_int .i64 ((q : Int) + 2))
      have x3 := MX.set x2 r2 (j := j * 3 + 2) (by omega) (v := .int .i64 ((q : Int) + 2)) (by simp only [fI]; congr 1; omega)
      have HX3 : Hid (MX (fI k) ((((wr.setCell ⟨g, j * 3, none⟩ (.int .i64 (q : Int))).setCell ⟨g, j * 3 + 1, none⟩ (.int .i64 ((q : Int) + 1))).setCell ⟨g, j * 3 + 2, none⟩ (.int .i64 ((q : Int) + 2)))) g ((j + 1) * 3)) := by
        rw [Hid, show (j + 1) * 3 = j * 3 + 2 + 1 by omega]
        exact x3
      clear t0 t1 t2 n0 n1 n2 eq0 hq x1 x2 x3 r0 r1 r2
      go_wp2_with fail
      go_roundw
      case rel => exact ⟨j + 1, by go_num, by have := HQ.out; rw [show (((j + 1) * 3 : Nat) : Int) + (k : Int) = (q : Int) + 3 by omega]; try rfl, by omega, HT3.out, HX3.out⟩
      case measure => simp [intOf]; omega
    · obtain rfl : j = n := by omega
      go_wp2_with fail
      go_ret
      exact ⟨rfl, HT.out, HX.out⟩
set_option maxHeartbeats 8000000 in
set_option maxRecDepth 100000 in
theorem markFrameS_x (w : World) (g cap n k : Nat) (hR : WrJ w g 94 (n * 3)) (hn : n ≤ 1048576) (hk : k ≤ 90000000) :
    Calls Tryz.prog 62 #[.slice (some ⟨g, 0, none⟩) n cap, .int .i64 (k : Int)] w fun e w' => e = .returned (.int .i64 (((n * 3 : Nat) : Int) + (k : Int))) ∧ Tr g (g + 1) w w' ∧ MX (fI k) w' g (n * 3) := by
  have HR : Hid _ := hR
  clear hR
  go_enter Tryz.func62, Tryz.ntmps62
  go_wp2_with fail
  go_loopw [1, 5] (fun mv iv wr => ∃ j : Nat, iv = .int .i64 j ∧ mv = .int .i64 (((j * 3 : Nat) : Int) + (k : Int)) ∧ j ≤ n ∧ Hid (Tr g (g + 1) w wr) ∧ Hid (MX (fI k) wr g (j * 3))) (fun _ i _ => n - (intOf i).toNat)
  case atStart => exact ⟨0, rfl, by simp, Nat.zero_le _, Tr.refl _ _ _, MX.zero _ _ _⟩
  case round =>
    obtain ⟨j, rfl, rfl, hj, HT, HX⟩ := hrel
    by_cases hlt : j < n
    · have hlt' : (j : Int) < (n : Int) := by omega
      obtain ⟨q, hq⟩ : ∃ q : Nat, j * 3 + k = q := ⟨_, rfl⟩
      have eq0 : ((j * 3 : Nat) : Int) + (k : Int) = (q : Int) := by omega
      rw [eq0]
      have hq2 : q ≤ 99000000 := by omega
      have HQ : Hid (j * 3 + k = q) := hq
      have t0 : Tr g (g + 1) w wr := HT.out
      have hg : g ≤ g ∧ g < g + 1 := ⟨Nat.le_refl _, Nat.lt_succ_self _⟩
      have r0 := WrJ.tr HR.out t0
      obtain ⟨v0, c0, n0, f0⟩ := WrJ.at' r0 (i := j * 3) (by omega)
      have t1 := t0.set hg c0 n0 (noSl_int .i64 (q : Int))
      have x1 := MX.set HX.out r0 (j := j * 3) (by omega) (v := .int .i64 (q : Int)) (by simp only [fI]; rw [eq0])
      have r1 := WrJ.tr HR.out t1
      obtain ⟨v1, c1, n1, f1⟩ := WrJ.at' r1 (i := j * 3 + 1) (by omega)
      have t2 := t1.set hg c1 n1 (noSl_int .i64 ((q : Int) + 1))
      have x2 := MX.set x1 r1 (j := j * 3 + 1) (by omega) (v := .int .i64 ((q : Int) + 1)) (by simp only [fI]; congr 1; omega)
      have r2 := WrJ.tr HR.out t2
      obtain ⟨v2, c2, n2, f2⟩ := WrJ.at' r2 (i := j * 3 + 2) (by omega)
      have HT3 : Hid (Tr g (g + 1) w ((((wr.setCell ⟨g, j * 3, none⟩ (.int .i64 (q : Int))).setCell ⟨g, j * 3 + 1, none⟩ (.int .i64 ((q : Int) + 1))).setCell ⟨g, j * 3 + 2, none⟩ (.int .i64 ((q : Int) + 2))))) := t2.set hg c2 n2 (noSl_int .i64 ((q : Int) + 2))
      have x3 := MX.set x2 r2 (j := j * 3 + 2) (by omega) (v := .int .i64 ((q : Int) + 2)) (by simp only [fI]; congr 1; omega)
      have HX3 : Hid (MX (fI k) ((((wr.setCell ⟨g, j * 3, none⟩ (.int .i64 (q : Int))).setCell ⟨g, j * 3 + 1, none⟩ (.int .i64 ((q : Int) + 1))).setCell ⟨g, j * 3 + 2, none⟩ (.int .i64 ((q : Int) + 2)))) g ((j + 1) * 3)) := by
        rw [Hid, show (j + 1) * 3 = j * 3 + 2 + 1 by omega]
        exact x3
      clear t0 t1 t2 n0 n1 n2 eq0 hq x1 x2 x3 r0 r1 r2
      go_wp2_with fail
      go_roundw
      case rel => exact ⟨j + 1, by go_num, by have := HQ.out; rw [show (((j + 1) * 3 : Nat) : Int) + (k : Int) = (q : Int) + 3 by omega]; try rfl, by omega, HT3.out, HX3.out⟩
      case measure => simp [intOf]; omega
    · obtain rfl : j = n := by omega
      go_wp2_with fail
      go_ret
      exact ⟨rfl, HT.out, HX.out⟩
end Go.Proofs.YtgempjjnfpmndaaGreatDoor
namespace Go.Proofs.YtgempjjnfpmndaaGreatDoor
open Go.RowKit
set_option linter.unusedSimpArgs false
set_option linter.unusedVariables false
set_option maxHeartbeats 8000000 in
set_option maxRecDepth 100000 in
theorem heldIntS_x (w : World) (g cap n k : Nat) (hM : MX (fI k) w g n) (hn : n ≤ 1048576) (hk : k ≤ 90000000) :
    Calls Tryz.prog 68 #[.slice (some ⟨g, 0, none⟩) n cap, .int .i64 (k : Int)] w fun e w' => e = .returned (.int .i64 ((n : Int) + (k : Int))) ∧ w = w' := by
  have HM : Hid _ := hM
  clear hM
  go_enter Tryz.func68, Tryz.ntmps68
  go_wp2_with fail
  go_loopw [1, 5] (fun m i wr => ∃ j : Nat, i = .int .i64 j ∧ m = .int .i64 ((j : Int) + (k : Int)) ∧ j ≤ n ∧ HidW w wr) (fun _ i _ => n - (intOf i).toNat)
  case atStart => exact ⟨0, rfl, by simp, Nat.zero_le _, ⟨rfl⟩⟩
  case round =>
    obtain ⟨j, rfl, rfl, hj, HW⟩ := hrel
    obtain rfl := HW.out
    by_cases hlt : j < n
    · have q1 : (j : Int) < (n : Int) := by omega
      have q0 : (0 : Int) ≤ (j : Int) := by omega
      have hc := HM.out j hlt
      simp only [fI] at hc
      have q2 : ((j : Int) + (k : Int) != (j : Int) + (k : Int)) = false := by simp
      go_wp2_with fail
      go_roundw
      case rel => exact ⟨j + 1, by go_num, by go_num, by omega, ⟨rfl⟩⟩
      case measure => simp [intOf]; omega
    · obtain rfl : j = n := by omega
      have q1 : ¬ (j : Int) < (j : Int) := by omega
      go_wp2_with fail
      go_ret
      exact ⟨rfl, rfl⟩
theorem heldInt0_ok (w : World) (ao : Option Addr) (cap k : Nat) :
    Calls Tryz.prog 68 #[.slice ao 0 cap, .int .i64 (k : Int)] w fun e w' => e = .returned (.int .i64 (k : Int)) ∧ w = w' := by
  go_enter Tryz.func68, Tryz.ntmps68
  go_wp2_with fail
  go_loopw [1, 5] (fun m i wr => i = .int .i64 0 ∧ m = .int .i64 (k : Int) ∧ w = wr) (fun _ _ _ => 0)
  case atStart => exact ⟨rfl, rfl, rfl⟩
  case round =>
    obtain ⟨rfl, rfl, rfl⟩ := hrel
    go_wp2
    go_ret
    exact ⟨rfl, rfl⟩
set_option maxHeartbeats 8000000 in
set_option maxRecDepth 100000 in
theorem heldStringS_x (w : World) (g cap n k : Nat) (hM : MX (fS k) w g n) (hn : n ≤ 1048576) (hk1 : 1 ≤ k) (hk : k ≤ 90000000) :
    Calls Tryz.prog 69 #[.slice (some ⟨g, 0, none⟩) n cap, .int .i64 (k : Int)] w fun e w' => e = .returned (.int .i64 ((n : Int) + (k : Int))) ∧ Kept w w' := by
  have HM : Hid _ := hM
  clear hM
  go_enter Tryz.func69, Tryz.ntmps69
  go_wp2_with fail
  go_loopw [1, 5] (fun m i wr => ∃ j : Nat, i = .int .i64 j ∧ m = .int .i64 ((j : Int) + (k : Int)) ∧ j ≤ n ∧ Kept w wr) (fun _ i _ => n - (intOf i).toNat)
  case atStart => exact ⟨0, rfl, by simp, Nat.zero_le _, Below.refl _ _⟩
  case round =>
    obtain ⟨j, rfl, rfl, hj, hK⟩ := hrel
    have HK : Hid _ := hK
    by_cases hlt : j < n
    · have hc := MX.kept HM.out hK j hlt
      simp only [fS] at hc
      have q1 : (j : Int) < (n : Int) := by omega
      have q0 : (0 : Int) ≤ (j : Int) := by omega
      obtain ⟨T, hT⟩ : ∃ T, mkM (j + k) = T := ⟨_, rfl⟩
      rw [hT] at hc
      have C1 : Hid (∀ u, Kept wr.drew u → Calls Tryz.prog 113 #[.int .i64 ((j : Int) + (k : Int))] u fun e w' => e = .returned (.string T) ∧ Kept u w') := fun u _ => by
        have := markTextN_ok u (j + k) (by omega) (by omega)
        rw [Int.natCast_add, hT] at this
        exact this
      have hbl := World.block_lt_of_cell? _ _ hc
      have y0 : ∀ u, Kept wr.drew u → u.cell? ⟨g, j, none⟩ = some (.string T) := fun u hu => ((Kept.trans (Below.refl _ wr).drew hu).cell (p := ⟨g, j, none⟩) hbl).trans hc
      clear hT hK hc
      go_wp2_with fail
      refine wp_region_seqL (by kernel_rfl) (by kernel_rfl) ?_
      repeat (first
        | (refine SeqL.skip (by rfl) ?_; simp only [Act.put, List.setIfInBounds_toArray, List.set_cons_zero, List.set_cons_succ])
        | (refine SeqL.pure ?_ (by rfl) ?_ ?_; rotate_left; (focus (intro u hu; have y0' := y0 u hu; go_simp; first | done | exact rfl)); simp only [Act.put, List.setIfInBounds_toArray, List.set_cons_zero, List.set_cons_succ])
        | (refine SeqL.call _ _ _ (by rfl) ?_ C1.out ?_; (focus (intro u; go_simp; done)); simp only [Act.put, List.setIfInBounds_toArray, List.set_cons_zero, List.set_cons_succ]))
      refine SeqL.nil ?_
      intro w2 hu2
      have k2 := Kept.trans HK.out (Kept.trans (Below.refl _ wr).drew hu2)
      clear y0 C1 hu2
      go_wp2_with fail
      go_roundw
      case rel => exact ⟨j + 1, by go_num, by go_num, by omega, k2⟩
      case measure => simp [intOf]; omega
    · obtain rfl : j = n := by omega
      clear hK
      go_wp2
      go_ret
      exact ⟨rfl, HK.out⟩
theorem heldString0_ok (w : World) (ao : Option Addr) (cap k : Nat) :
    Calls Tryz.prog 69 #[.slice ao 0 cap, .int .i64 (k : Int)] w fun e w' => e = .returned (.int .i64 (k : Int)) ∧ w = w' := by
  go_enter Tryz.func69, Tryz.ntmps69
  go_wp2_with fail
  go_loopw [1, 5] (fun m i wr => i = .int .i64 0 ∧ m = .int .i64 (k : Int) ∧ w = wr) (fun _ _ _ => 0)
  case atStart => exact ⟨rfl, rfl, rfl⟩
  case round =>
    obtain ⟨rfl, rfl, rfl⟩ := hrel
    go_wp2
    go_ret
    exact ⟨rfl, rfl⟩
set_option maxHeartbeats 8000000 in
set_option maxRecDepth 100000 in
theorem heldStepS_x (w : World) (g cap n k : Nat) (hM : MX (fI k) w g (n * 3)) (hn : n ≤ 1048576) (hk : k ≤ 90000000) :
    Calls Tryz.prog 155 #[.slice (some ⟨g, 0, none⟩) n cap, .int .i64 (k : Int)] w fun e w' => e = .returned (.int .i64 (((n * 3 : Nat) : Int) + (k : Int))) ∧ w = w' := by
  have HM : Hid _ := hM
  clear hM
  go_enter Tryz.func155, Tryz.ntmps155
  go_wp2_with fail
  go_loopw [1, 5] (fun m i wr => ∃ j : Nat, i = .int .i64 j ∧ m = .int .i64 (((j * 3 : Nat) : Int) + (k : Int)) ∧ j ≤ n ∧ HidW w wr) (fun _ i _ => n - (intOf i).toNat)
  case atStart => exact ⟨0, rfl, by simp, Nat.zero_le _, ⟨rfl⟩⟩
  case round =>
    obtain ⟨j, rfl, rfl, hj, HW⟩ := hrel
    obtain rfl := HW.out
    by_cases hlt : j < n
    · have q1 : (j : Int) < (n : Int) := by omega
      have q0 : (0 : Int) ≤ (j : Int) := by omega
      obtain ⟨q, hq⟩ : ∃ q : Nat, j * 3 + k = q := ⟨_, rfl⟩
      have eq0 : ((j * 3 : Nat) : Int) + (k : Int) = (q : Int) := by omega
      rw [eq0]
      have HQ : Hid (j * 3 + k = q) := hq
      have hq2 : q ≤ 99000000 := by omega
      have c0 := HM.out (j * 3) (by omega)
      have c1 := HM.out (j * 3 + 1) (by omega)
      have c2 := HM.out (j * 3 + 2) (by omega)
      simp only [fI] at c0 c1 c2
      rw [show ((j * 3 : Nat) : Int) + (k : Int) = (q : Int) by omega] at c0
      rw [show ((j * 3 + 1 : Nat) : Int) + (k : Int) = (q : Int) + 1 by omega] at c1
      rw [show ((j * 3 + 2 : Nat) : Int) + (k : Int) = (q : Int) + 2 by omega] at c2
      have e0 : ((q : Int) != (q : Int)) = false := by simp
      have e1 : ((q : Int) + 1 != (q : Int) + 1) = false := by simp
      have e2 : ((q : Int) + 2 != (q : Int) + 2) = false := by simp
      clear eq0 hq
      go_wp2_with fail
      go_roundw
      case rel => exact ⟨j + 1, by go_num, by have := HQ.out; rw [show (((j + 1) * 3 : Nat) : Int) + (k : Int) = (q : Int) + 3 by omega]; try rfl, by omega, ⟨rfl⟩⟩
      case measure => simp [intOf]; omega
    · obtain rfl : j = n := by omega
      have q1 : ¬ (j : Int) < (j : Int) := by omega
      go_wp2_with fail
      go_ret
      exact ⟨rfl, rfl⟩
set_option maxHeartbeats 8000000 in
set_option maxRecDepth 100000 in
theorem heldFrameS_x (w : World) (g cap n k : Nat) (hM : MX (fI k) w g (n * 3)) (hn : n ≤ 1048576) (hk : k ≤ 90000000) :
    Calls Tryz.prog 67 #[.slice (some ⟨g, 0, none⟩) n cap, .int .i64 (k : Int)] w fun e w' => e = .returned (.int .i64 (((n * 3 : Nat) : Int) + (k : Int))) ∧ w = w' := by
  have HM : Hid _ := hM
  clear hM
  go_enter Tryz.func67, Tryz.ntmps67
  go_wp2_with fail
  go_loopw [1, 5] (fun m i wr => ∃ j : Nat, i = .int .i64 j ∧ m = .int .i64 (((j * 3 : Nat) : Int) + (k : Int)) ∧ j ≤ n ∧ HidW w wr) (fun _ i _ => n - (intOf i).toNat)
  case atStart => exact ⟨0, rfl, by simp, Nat.zero_le _, ⟨rfl⟩⟩
  case round =>
    obtain ⟨j, rfl, rfl, hj, HW⟩ := hrel
    obtain rfl := HW.out
    by_cases hlt : j < n
    · have q1 : (j : Int) < (n : Int) := by omega
      have q0 : (0 : Int) ≤ (j : Int) := by omega
      obtain ⟨q, hq⟩ : ∃ q : Nat, j * 3 + k = q := ⟨_, rfl⟩
      have eq0 : ((j * 3 : Nat) : Int) + (k : Int) = (q : Int) := by omega
      rw [eq0]
      have HQ : Hid (j * 3 + k = q) := hq
      have hq2 : q ≤ 99000000 := by omega
      have c0 := HM.out (j * 3) (by omega)
      have c1 := HM.out (j * 3 + 1) (by omega)
      have c2 := HM.out (j * 3 + 2) (by omega)
      simp only [fI] at c0 c1 c2
      rw [show ((j * 3 : Nat) : Int) + (k : Int) = (q : Int) by omega] at c0
      rw [show ((j * 3 + 1 : Nat) : Int) + (k : Int) = (q : Int) + 1 by omega] at c1
      rw [show ((j * 3 + 2 : Nat) : Int) + (k : Int) = (q : Int) + 2 by omega] at c2
      have e0 : ((q : Int) != (q : Int)) = false := by simp
      have e1 : ((q : Int) + 1 != (q : Int) + 1) = false := by simp
      have e2 : ((q : Int) + 2 != (q : Int) + 2) = false := by simp
      clear eq0 hq
      go_wp2_with fail
      go_roundw
      case rel => exact ⟨j + 1, by go_num, by have := HQ.out; rw [show (((j + 1) * 3 : Nat) : Int) + (k : Int) = (q : Int) + 3 by omega]; try rfl, by omega, ⟨rfl⟩⟩
      case measure => simp [intOf]; omega
    · obtain rfl : j = n := by omega
      have q1 : ¬ (j : Int) < (j : Int) := by omega
      go_wp2_with fail
      go_ret
      exact ⟨rfl, rfl⟩
theorem cell_set_ne {W : World} {g i j : Nat} {t : TypeId} {cs : Array Value} {u v : Value} (hC : Cells W g t cs) (h : W.cell? ⟨g, i, none⟩ = some u) (hne : j ≠ i) : (W.setCell ⟨g, j, none⟩ v).cell? ⟨g, i, none⟩ = some u := by
  rw [(hC.set j v).cell, Array.getElem?_setIfInBounds_ne hne, ← hC.cell]
  exact h
theorem cell_set_eq {W : World} {g j : Nat} {t : TypeId} {cs : Array Value} {u v : Value} (hC : Cells W g t cs) (h : W.cell? ⟨g, j, none⟩ = some u) : (W.setCell ⟨g, j, none⟩ v).cell? ⟨g, j, none⟩ = some v := by
  rw [hC.cell] at h
  have hz : j < cs.size := (Array.getElem?_eq_some_iff.1 h).1
  rw [(hC.set j v).cell, Array.getElem?_setIfInBounds, if_pos rfl, if_pos hz]
theorem MX.other {f : Nat → Value} {W : World} {x n g j : Nat} {v : Value} (h : MX f W x n) (hne : g ≠ x) : MX f (W.setCell ⟨g, j, none⟩ v) x n := fun i hi => (cell_other hne).trans (h i hi)
/-- Codes of one's own, each row of steps in a block of its own. -/
structure CodMx (W : World) (g : Nat) (cs : List Cod) (xs cp : Nat → Nat) : Prop where
  r : ∃ vs, Cells W g 91 vs ∧ ∀ j, j < cs.length → ∃ a b, vs[j * 3]? = some a ∧ NoSl a ∧ vs[j * 3 + 1]? = some b ∧ NoSl b
  s : ∀ (j : Nat) (c : Cod), cs[j]? = some c → W.cell? ⟨g, j * 3 + 2, none⟩ = some (.slice (some ⟨xs j, 0, none⟩) c.ss.length (cp j)) ∧ WrJ W (xs j) 131 (c.ss.length * 3)
  ne : ∀ j, j < cs.length → xs j ≠ g
  inj : ∀ i j, i < cs.length → j < cs.length → xs i = xs j → i = j
theorem CodMx.tr {W W' : World} {lo hi g : Nat} {cs : List Cod} {xs cp : Nat → Nat} (h : CodMx W g cs xs cp) (k : Tr lo hi W W') : CodMx W' g cs xs cp := by
  obtain ⟨⟨vs, h1, h3⟩, h4, h5, h6⟩ := h
  obtain ⟨us, k1, k2, k3⟩ := k.shp g _ vs h1
  refine ⟨⟨us, k1, fun j hj => ?_⟩, fun j c hc => ?_, h5, h6⟩
  · obtain ⟨a, b, ha, na, hb, nb⟩ := h3 j hj
    obtain ⟨a', ha', ya, _⟩ := k3 _ a ha
    obtain ⟨b', hb', yb, _⟩ := k3 _ b hb
    exact ⟨a', b', ha', ya na, hb', yb nb⟩
  · obtain ⟨hs, hw⟩ := h4 j c hc
    rw [h1.cell] at hs
    obtain ⟨v', hv', _, yv⟩ := k3 _ _ hs
    rw [yv (fun hn => hn _ _ _ rfl)] at hv'
    exact ⟨by rw [k1.cell]; exact hv', hw.tr k⟩
theorem CodMx.at0 {W : World} {g j : Nat} {cs : List Cod} {xs cp : Nat → Nat} (h : CodMx W g cs xs cp) (hj : j < cs.length) : ∃ v, W.cell? ⟨g, j * 3, none⟩ = some v ∧ NoSl v ∧ W.frozen? ⟨g, j * 3, none⟩ = false := by
  obtain ⟨⟨vs, h1, h3⟩, _⟩ := h
  obtain ⟨a, b, ha, na, _, _⟩ := h3 j hj
  exact ⟨a, by rw [h1.cell]; exact ha, na, h1.frozen _⟩
theorem CodMx.at1 {W : World} {g j : Nat} {cs : List Cod} {xs cp : Nat → Nat} (h : CodMx W g cs xs cp) (hj : j < cs.length) : ∃ v, W.cell? ⟨g, j * 3 + 1, none⟩ = some v ∧ NoSl v ∧ W.frozen? ⟨g, j * 3 + 1, none⟩ = false := by
  obtain ⟨⟨vs, h1, h3⟩, _⟩ := h
  obtain ⟨a, b, _, _, hb, nb⟩ := h3 j hj
  exact ⟨b, by rw [h1.cell]; exact hb, nb, h1.frozen _⟩
/-- The first j codes hold their marks. -/
def MCj (W : World) (g k : Nat) (cs : List Cod) (xs cp : Nat → Nat) (j : Nat) : Prop := ∀ (i : Nat) (c : Cod), i < j → cs[i]? = some c → W.cell? ⟨g, i * 3, none⟩ = some (.int .i64 ((cntC (cs.take i) + k : Nat) : Int)) ∧ W.cell? ⟨g, i * 3 + 1, none⟩ = some (.int .i64 (((cntC (cs.take i) + k : Nat) : Int) + 1)) ∧ W.cell? ⟨g, i * 3 + 2, none⟩ = some (.slice (some ⟨xs i, 0, none⟩) c.ss.length (cp i)) ∧ MX (fI (cntC (cs.take i) + k + 2)) W (xs i) (c.ss.length * 3)
theorem MCj.kept {W W' : World} {g k : Nat} {cs : List Cod} {xs cp : Nat → Nat} {j : Nat} (h : MCj W g k cs xs cp j) (hk : Kept W W') : MCj W' g k cs xs cp j := fun i c hi hc => by
  obtain ⟨h0, h1, h2, h3⟩ := h i c hi hc
  exact ⟨cellK hk h0, cellK hk h1, cellK hk h2, h3.kept hk⟩
theorem MCj.tr {lo hi : Nat} {W W' : World} {g k : Nat} {cs : List Cod} {xs cp : Nat → Nat} {j : Nat} (h : MCj W g k cs xs cp j) (hk : Tr lo hi W W') (hg : ¬ (lo ≤ g ∧ g < hi)) (hx : ∀ i, i < j → i < cs.length → ¬ (lo ≤ xs i ∧ xs i < hi)) : MCj W' g k cs xs cp j := fun i c hi' hc => by
  obtain ⟨h0, h1, h2, h3⟩ := h i c hi' hc
  exact ⟨cell_tr hk h0 hg, cell_tr hk h1 hg, cell_tr hk h2 hg, h3.tr hk (hx i hi' (List.getElem?_eq_some_iff.1 hc).1)⟩
theorem MCj.set {W : World} {g k : Nat} {cs : List Cod} {xs cp : Nat → Nat} {j : Nat} (h : MCj W g k cs xs cp j) (hX : CodMx W g cs xs cp) {p : Nat} (hp : j * 3 ≤ p) (v : Value) : MCj (W.setCell ⟨g, p, none⟩ v) g k cs xs cp j := fun i c hi hc => by
  obtain ⟨h0, h1, h2, h3⟩ := h i c hi hc
  obtain ⟨vs, hv, _⟩ := hX.r
  exact ⟨cell_set_ne hv h0 (by omega), cell_set_ne hv h1 (by omega), cell_set_ne hv h2 (by omega), h3.other (fun e => hX.ne i (List.getElem?_eq_some_iff.1 hc).1 e.symm)⟩
set_option maxHeartbeats 8000000 in
set_option maxRecDepth 100000 in
theorem markCodeS_x (w : World) (lo hi g cap : Nat) (cs : List Cod) (xs cp : Nat → Nat) (k : Nat) (hg : lo ≤ g ∧ g < hi) (hxs : ∀ j, j < cs.length → lo ≤ xs j ∧ xs j < hi) (hR : CodMx w g cs xs cp) (hn : cs.length ≤ 1048576) (hs : sumC cs ≤ 1048576) (hk : k ≤ 80000000) :
    Calls Tryz.prog 58 #[.slice (some ⟨g, 0, none⟩) cs.length cap, .int .i64 (k : Int)] w fun e w' => e = .returned (.int .i64 ((cntC cs + k : Nat) : Int)) ∧ Tr lo hi w w' ∧ MCj w' g k cs xs cp cs.length := by
  have HR : Hid _ := hR
  have HX : Hid _ := hxs
  have hcn : cntC cs ≤ 5300000 := by unfold cntC; omega
  clear hR hxs
  go_enter Tryz.func58, Tryz.ntmps58
  go_wp2_with fail
  go_loopw [1, 5] (fun mv iv wr => ∃ j : Nat, iv = .int .i64 j ∧ mv = .int .i64 ((cntC (cs.take j) + k : Nat) : Int) ∧ j ≤ cs.length ∧ Hid (Tr lo hi w wr) ∧ Hid (MCj wr g k cs xs cp j)) (fun _ i _ => cs.length - (intOf i).toNat)
  case atStart => exact ⟨0, rfl, by simp [cntC, sumC], Nat.zero_le _, Tr.refl _ _ _, fun i c hi => by omega⟩
  case round =>
    obtain ⟨j, rfl, rfl, hj, HT, HM⟩ := hrel
    have hle := cntC_le cs j
    obtain ⟨q, hq⟩ : ∃ q : Nat, cntC (cs.take j) + k = q := ⟨_, rfl⟩
    rw [hq]
    have hq2 : q ≤ 86000000 := by omega
    have HQ : Hid (cntC (cs.take j) + k = q) := hq
    by_cases hlt : j < cs.length
    · have hlt' : (j : Int) < (cs.length : Int) := by omega
      obtain ⟨c, hc⟩ : ∃ c, cs[j]? = some c := ⟨_, List.getElem?_eq_getElem hlt⟩
      have hct := cntC_take hc
      have hle2 := cntC_le cs (j + 1)
      have hss : c.ss.length ≤ 1048576 := by have := sumC_mem (List.mem_of_getElem? hc); omega
      have HCt : Hid _ := hct
      have t0 : Tr lo hi w wr := HT.out
      have r0 := CodMx.tr HR.out t0
      obtain ⟨v0, c0, n0, f0⟩ := CodMx.at0 r0 (j := j) hlt
      have t1 := t0.set hg c0 n0 (noSl_int .i64 (q : Int))
      have m1 := MCj.set HM.out r0 (p := j * 3) (Nat.le_refl _) (.int .i64 (q : Int))
      obtain ⟨vs0, hv0, _⟩ := r0.r
      have p1 := cell_set_eq (v := .int .i64 (q : Int)) hv0 c0
      have r1 := CodMx.tr HR.out t1
      obtain ⟨v1, c1, n1, f1⟩ := CodMx.at1 r1 (j := j) hlt
      have t2 := t1.set hg c1 n1 (noSl_int .i64 ((q : Int) + 1))
      have m2 := MCj.set m1 r1 (p := j * 3 + 1) (by omega) (.int .i64 ((q : Int) + 1))
      obtain ⟨vs1, hv1, _⟩ := r1.r
      have p1' := cell_set_ne (j := j * 3 + 1) (v := .int .i64 ((q : Int) + 1)) hv1 p1 (by omega)
      have p2 := cell_set_eq (v := .int .i64 ((q : Int) + 1)) hv1 c1
      have r2 := CodMx.tr HR.out t2
      obtain ⟨c2, hw⟩ := r2.s j c hc
      have hx := HX.out j hlt
      have hM := markStepS_x _ (xs j) (cp j) c.ss.length (q + 2) hw hss (by omega)
      have eq2 : ((q + 2 : Nat) : Int) = (q : Int) + 2 := by omega
      rw [eq2] at hM
      have HT2 : Hid _ := t2
      have HM2 : Hid _ := m2
      have HP : Hid _ := And.intro p1' (And.intro p2 c2)
      have HR2 : Hid _ := r2
      have HC : Hid _ := hc
      clear t0 t1 t2 n0 n1 hq hct hle hle2 hw hc eq2 m1 m2 p1 p1' p2 r0 r1 r2 hv0 hv1 hx
      go_wp2_with (go_at_call 112; refine hM.mono ?_; rintro e w3 ⟨rfl, t3, x3⟩)
      have hx := HX.out j hlt
      have HT3 : Hid _ := Tr.trans HT2.out (tr_block t3 hx.1 hx.2)
      have hgx : g ≠ xs j := fun e => HR2.out.ne j hlt e.symm
      have HM3 : Hid (MCj w3 g k cs xs cp (j + 1)) := by
        intro i d hi hd
        by_cases e : i = j
        · subst e
          rw [HC.out] at hd
          cases hd
          obtain ⟨p1, p2, p3⟩ := HP.out
          have hnn : ¬ (xs i ≤ g ∧ g < xs i + 1) := by omega
          rw [HQ.out]
          exact ⟨cell_tr t3 p1 hnn, cell_tr t3 p2 hnn, cell_tr t3 p3 hnn, x3⟩
        · have hil : i < cs.length := (List.getElem?_eq_some_iff.1 hd).1
          exact (MCj.tr HM2.out t3 (by omega) (fun i' h1 h2 => by
            have : xs i' ≠ xs j := fun e' => by have := HR2.out.inj i' j h2 hlt e'; omega
            omega)) i d (by omega) hd
      go_roundw
      case rel => exact ⟨j + 1, by go_num, (by have := HQ.out; have := HCt.out; rw [show ((cntC (cs.take (j + 1)) + k : Nat) : Int) = ((c.ss.length * 3 : Nat) : Int) + ((q : Int) + 2) by omega]; first | rfl | simp), by omega, HT3.out, HM3.out⟩
      case measure => simp [intOf]; omega
    · obtain rfl : j = cs.length := by omega
      have HE : Hid (q = cntC cs + k) := by rw [Hid, ← hq, List.take_length]
      go_wp2_with fail
      go_ret
      exact ⟨by rw [← HE.out]; rfl, HT.out, HM.out⟩
set_option maxHeartbeats 8000000 in
set_option maxRecDepth 100000 in
theorem heldCodeS_x (w : World) (g cap : Nat) (cs : List Cod) (xs cp : Nat → Nat) (k : Nat) (hM : MCj w g k cs xs cp cs.length) (hn : cs.length ≤ 1048576) (hs : sumC cs ≤ 1048576) (hk : k ≤ 80000000) :
    Calls Tryz.prog 114 #[.slice (some ⟨g, 0, none⟩) cs.length cap, .int .i64 (k : Int)] w fun e w' => e = .returned (.int .i64 ((cntC cs + k : Nat) : Int)) ∧ w = w' := by
  have HM : Hid _ := hM
  have hcn : cntC cs ≤ 5300000 := by unfold cntC; omega
  clear hM
  go_enter Tryz.func114, Tryz.ntmps114
  go_wp2_with fail
  go_loopw [1, 5] (fun mv iv wr => ∃ j : Nat, iv = .int .i64 j ∧ mv = .int .i64 ((cntC (cs.take j) + k : Nat) : Int) ∧ j ≤ cs.length ∧ HidW w wr) (fun _ i _ => cs.length - (intOf i).toNat)
  case atStart => exact ⟨0, rfl, by simp [cntC, sumC], Nat.zero_le _, ⟨rfl⟩⟩
  case round =>
    obtain ⟨j, rfl, rfl, hj, HW⟩ := hrel
    obtain rfl := HW.out
    have hle := cntC_le cs j
    by_cases hlt : j < cs.length
    · have hlt' : (j : Int) < (cs.length : Int) := by omega
      have q0 : (0 : Int) ≤ (j : Int) := by omega
      obtain ⟨c, hc⟩ : ∃ c, cs[j]? = some c := ⟨_, List.getElem?_eq_getElem hlt⟩
      have hct := cntC_take hc
      have hle2 := cntC_le cs (j + 1)
      have hss : c.ss.length ≤ 1048576 := by have := sumC_mem (List.mem_of_getElem? hc); omega
      obtain ⟨c0, c1, c2, hx⟩ := HM.out j c hlt hc
      obtain ⟨q, hq⟩ : ∃ q : Nat, cntC (cs.take j) + k = q := ⟨_, rfl⟩
      rw [hq] at c0 c1 hx ⊢
      have hq2 : q ≤ 86000000 := by omega
      have hH := heldStepS_x w (xs j) (cp j) c.ss.length (q + 2) hx hss (by omega)
      have eq2 : ((q + 2 : Nat) : Int) = (q : Int) + 2 := by omega
      rw [eq2] at hH
      have e0 : ((q : Int) != (q : Int)) = false := by simp
      have e1 : ((q : Int) + 1 != (q : Int) + 1) = false := by simp
      have hd : decide (((c.ss.length * 3 : Nat) : Int) + ((q : Int) + 2) < 0) = false := decide_eq_false (by omega)
      have HQ : Hid (cntC (cs.take j) + k = q) := hq
      have HCt : Hid _ := hct
      clear hq hct hle hle2 hx hc eq2
      go_wp2_with (go_at_call 155; refine hH.mono ?_; rintro e w3 ⟨rfl, rfl⟩)
      go_roundw
      case rel => exact ⟨j + 1, by go_num, (by have := HQ.out; have := HCt.out; rw [show ((cntC (cs.take (j + 1)) + k : Nat) : Int) = ((c.ss.length * 3 : Nat) : Int) + ((q : Int) + 2) by omega]; first | rfl | simp), by omega, ⟨rfl⟩⟩
      case measure => simp [intOf]; omega
    · obtain rfl : j = cs.length := by omega
      have HE : Hid (cntC (cs.take cs.length) + k = cntC cs + k) := by rw [Hid, List.take_length]
      have q1 : ¬ (cs.length : Int) < (cs.length : Int) := by omega
      go_wp2_with fail
      go_ret
      exact ⟨by first | rfl | (rw [← HE.out]; rfl), rfl⟩
end Go.Proofs.YtgempjjnfpmndaaGreatDoor
namespace Go.Proofs.YtgempjjnfpmndaaGreatDoor
open Go.RowKit
set_option linter.unusedSimpArgs false
set_option linter.unusedVariables false
@[reducible] def slB (g n c : Nat) : Value := .slice (some ⟨g, 0, none⟩) n c
set_option maxHeartbeats 8000000 in
set_option maxRecDepth 100000 in
theorem markUnit_x (w : World) (lo hi g0 g1 c0 c1 : Nat) (cs : List Cod) (ts : List ByteArray) (xs cp : Nat → Nat) (k : Nat) (hg0 : lo ≤ g0 ∧ g0 < hi) (hg1 : lo ≤ g1 ∧ g1 < hi) (hxs : ∀ j, j < cs.length → lo ≤ xs j ∧ xs j < hi) (hhi : hi ≤ w.heap.size) (hC : CodMx w g0 cs xs cp) (hT : WrJ w g1 9 ts.length) (h01 : g0 ≠ g1) (hx1 : ∀ j, j < cs.length → xs j ≠ g1) (hn : cs.length ≤ 1048576) (hs : sumC cs ≤ 1048576) (ht : ts.length ≤ 1048576) (hk1 : 1 ≤ k) (hk : k ≤ 50000000) :
    Calls Tryz.prog 18 #[.agg #[slB g0 cs.length c0, slB g1 ts.length c1], .int .i64 (k : Int)] w fun e w' => e = .returned (.int .i64 ((cntC cs + k + ts.length : Nat) : Int)) ∧ Tr lo hi w w' ∧ MCj w' g0 k cs xs cp cs.length ∧ MX (fS (cntC cs + k)) w' g1 ts.length := by
  obtain ⟨W0, hW0⟩ : ∃ x, w.alloc (.cells #[slB g0 cs.length c0, slB g1 ts.length c1] 38) = x := ⟨_, rfl⟩
  have t0 : Tr lo hi w W0 := hW0 ▸ Tr.of (Kept.alloc (Below.refl _ _) _)
  have bx : Cells W0 w.heap.size 38 #[slB g0 cs.length c0, slB g1 ts.length c1] := hW0 ▸ Cells.new w _ _
  have hM := markCodeS_x W0 lo hi g0 c0 cs xs cp k hg0 hxs (hC.tr t0) hn hs (by omega)
  have hcn : cntC cs ≤ 5300000 := by unfold cntC; omega
  obtain ⟨q, hq⟩ : ∃ q : Nat, cntC cs + k = q := ⟨_, rfl⟩
  rw [hq] at hM ⊢
  have HT0 : Hid _ := t0
  have HB : Hid (∀ u, Tr lo hi W0 u → u.cell? ⟨w.heap.size, 1, none⟩ = some (slB g1 ts.length c1)) := fun u hu => (Cells.tr bx hu hhi).cell 1
  have a0 : W0.cell? ⟨w.heap.size, 0, none⟩ = some (slB g0 cs.length c0) := bx.cell 0
  have HM2 : Hid (∀ u, Tr lo hi W0 u → Calls Tryz.prog 59 #[slB g1 ts.length c1, .int .i64 (q : Int)] u fun e w' => e = .returned (.int .i64 ((ts.length : Int) + (q : Int))) ∧ Tr g1 (g1 + 1) u w' ∧ MX (fS q) w' g1 ts.length) := fun u hu => markStringS_x u g1 c1 ts.length q ((hT.tr t0).tr hu) ht (by omega) (by omega)
  have HG : Hid (∀ a b, Tr g1 (g1 + 1) a b → Tr lo hi a b ∧ (MCj a g0 k cs xs cp cs.length → MCj b g0 k cs xs cp cs.length)) := fun a b h => ⟨tr_block h hg1.1 hg1.2, fun hm => MCj.tr hm h (by omega) (fun i hi _ => by have := hx1 i hi; omega)⟩
  clear hC hT bx hcn hg0 hg1 hhi hxs h01 hx1 hk hk1 hn hs ht hq t0
  go_enter Tryz.func18, Tryz.ntmps18
  go_upto_region 1 with (fail)
  try simp only [hW0]
  clear hW0
  go_wp2_with fail
  refine hM.mono ?_
  rintro e w1 ⟨rfl, t1, m1⟩
  have hM2 := HM2.out w1 t1
  have a1 := HB.out _ t1
  clear hM HM2 HB a0
  go_wp2_with fail
  refine hM2.mono ?_
  rintro e w2 ⟨rfl, t2, x2⟩
  have hg := HG.out _ _ t2
  clear hM2 a1
  go_wp2_with fail
  go_ret
  exact ⟨by first | rfl | (simp [Int.add_comm]), Tr.trans HT0.out (Tr.trans t1 hg.1), hg.2 m1, x2⟩
set_option maxHeartbeats 8000000 in
set_option maxRecDepth 100000 in
theorem heldUnit_x (w : World) (g0 g1 c0 c1 : Nat) (cs : List Cod) (ts : List ByteArray) (xs cp : Nat → Nat) (k : Nat) (hC : MCj w g0 k cs xs cp cs.length) (hT : MX (fS (cntC cs + k)) w g1 ts.length) (hn : cs.length ≤ 1048576) (hs : sumC cs ≤ 1048576) (ht : ts.length ≤ 1048576) (hk1 : 1 ≤ k) (hk : k ≤ 50000000) :
    Calls Tryz.prog 64 #[.agg #[slB g0 cs.length c0, slB g1 ts.length c1], .int .i64 (k : Int)] w fun e w' => e = .returned (.int .i64 ((cntC cs + k + ts.length : Nat) : Int)) ∧ Kept w w' := by
  obtain ⟨W0, hW0⟩ : ∃ x, w.alloc (.cells #[slB g0 cs.length c0, slB g1 ts.length c1] 38) = x := ⟨_, rfl⟩
  have k0 : Kept w W0 := hW0 ▸ Kept.alloc (Below.refl _ _) _
  have bx : Cells W0 w.heap.size 38 #[slB g0 cs.length c0, slB g1 ts.length c1] := hW0 ▸ Cells.new w _ _
  have hM := heldCodeS_x W0 g0 c0 cs xs cp k (hC.kept k0) hn hs (by omega)
  have hcn : cntC cs ≤ 5300000 := by unfold cntC; omega
  obtain ⟨q, hq⟩ : ∃ q : Nat, cntC cs + k = q := ⟨_, rfl⟩
  rw [hq] at hM hT ⊢
  have hM2 := heldStringS_x W0 g1 c1 ts.length q (hT.kept k0) ht (by omega) (by omega)
  have HK0 : Hid _ := k0
  have a0 : W0.cell? ⟨w.heap.size, 0, none⟩ = some (slB g0 cs.length c0) := bx.cell 0
  have a1 : W0.cell? ⟨w.heap.size, 1, none⟩ = some (slB g1 ts.length c1) := bx.cell 1
  have d0 : decide ((q : Int) < 0) = false := decide_eq_false (by omega)
  have d1 : decide ((ts.length : Int) + (q : Int) < 0) = false := decide_eq_false (by omega)
  have d2 : ¬ (ts.length : Int) + (q : Int) < 0 := by omega
  have d3 : ¬ (q : Int) < 0 := by omega
  clear hC hT bx hcn hk hk1 hn hs ht hq k0
  go_enter Tryz.func64, Tryz.ntmps64
  go_upto_region 1 with (fail)
  try simp only [hW0]
  clear hW0
  go_wp2_with fail
  refine hM.mono ?_
  rintro e w1 ⟨rfl, rfl⟩
  clear hM
  go_wp2_with fail
  refine hM2.mono ?_
  rintro e w2 ⟨rfl, k2⟩
  clear hM2 a0 a1
  go_wp2_with fail
  go_ret
  exact ⟨by first | rfl | (simp [Int.add_comm]), Kept.trans HK0.out k2⟩
set_option maxHeartbeats 8000000 in
set_option maxRecDepth 100000 in
theorem markSlab_x (w : World) (g n cap k : Nat) (hR : WrJ w g 3 n) (hn : n ≤ 1048576) (hk : k ≤ 60000000) :
    Calls Tryz.prog 60 #[.agg #[slB g n cap], .int .i64 (k : Int)] w fun e w' => e = .returned (.int .i64 ((n : Int) + (k : Int))) ∧ Tr g (g + 1) w w' ∧ MX (fI k) w' g n := by
  have t0 : Tr g (g + 1) w (w.alloc (.cells #[slB g n cap] 39)) := Tr.of (Kept.alloc (Below.refl _ _) _)
  have hM := markIntS_x _ g cap n k (hR.tr t0) hn (by omega)
  have HT0 : Hid _ := t0
  clear hR t0
  go_enter Tryz.func60, Tryz.ntmps60
  go_wp2_with fail
  refine hM.mono ?_
  rintro e w1 ⟨rfl, t1, x1⟩
  clear hM
  go_wp2_with fail
  go_ret
  exact ⟨rfl, Tr.trans HT0.out t1, x1⟩
set_option maxHeartbeats 8000000 in
set_option maxRecDepth 100000 in
theorem heldSlab_x (w : World) (g n cap k : Nat) (hM : MX (fI k) w g n) (hn : n ≤ 1048576) (hk : k ≤ 60000000) :
    Calls Tryz.prog 65 #[.agg #[slB g n cap], .int .i64 (k : Int)] w fun e w' => e = .returned (.int .i64 ((n : Int) + (k : Int))) ∧ Kept w w' := by
  have k0 : Kept w (w.alloc (.cells #[slB g n cap] 39)) := Kept.alloc (Below.refl _ _) _
  have hH := heldIntS_x _ g cap n k (hM.kept k0) hn (by omega)
  have HK0 : Hid _ := k0
  have d1 : decide ((n : Int) + (k : Int) < 0) = false := decide_eq_false (by omega)
  have d2 : ¬ (n : Int) + (k : Int) < 0 := by omega
  clear hM k0
  go_enter Tryz.func65, Tryz.ntmps65
  go_wp2_with fail
  refine hH.mono ?_
  rintro e w1 ⟨rfl, rfl⟩
  clear hH
  go_wp2_with fail
  go_ret
  exact ⟨rfl, HK0.out⟩
set_option maxHeartbeats 8000000 in
set_option maxRecDepth 100000 in
theorem markMarker0_ok (w : World) (k : Nat) (ph at' : Int) :
    Calls Tryz.prog 61 #[.agg #[.int .i64 ph, .slice none 0 0, .slice none 0 0, .int .i64 at'], .int .i64 (k : Int)] w fun e w' => e = .returned (.int .i64 (k : Int)) ∧ Kept w w' := by
  have k0 : Kept w (w.alloc (.cells #[.int .i64 ph, .slice none 0 0, .slice none 0 0, .int .i64 at'] 40)) := Kept.alloc (Below.refl _ _) _
  have hM : ∀ u, Calls Tryz.prog 63 #[.slice none 0 0, .int .i64 (k : Int)] u fun e w' => e = .returned (.int .i64 (k : Int)) ∧ u = w' := fun u => markInt0_ok u none 0 k
  go_enter Tryz.func61, Tryz.ntmps61
  go_wp2_with fail
  refine (hM _).mono ?_
  rintro e w1 ⟨rfl, rfl⟩
  go_wp2_with fail
  refine (hM _).mono ?_
  rintro e w1 ⟨rfl, rfl⟩
  go_wp2_with fail
  go_ret
  exact ⟨rfl, k0⟩
set_option maxHeartbeats 8000000 in
set_option maxRecDepth 100000 in
theorem heldMarker0_ok (w : World) (k : Nat) (ph at' : Int) :
    Calls Tryz.prog 66 #[.agg #[.int .i64 ph, .slice none 0 0, .slice none 0 0, .int .i64 at'], .int .i64 (k : Int)] w fun e w' => e = .returned (.int .i64 (k : Int)) ∧ Kept w w' := by
  have k0 : Kept w (w.alloc (.cells #[.int .i64 ph, .slice none 0 0, .slice none 0 0, .int .i64 at'] 40)) := Kept.alloc (Below.refl _ _) _
  have hM : ∀ u, Calls Tryz.prog 68 #[.slice none 0 0, .int .i64 (k : Int)] u fun e w' => e = .returned (.int .i64 (k : Int)) ∧ u = w' := fun u => heldInt0_ok u none 0 k
  have d1 : decide ((k : Int) < 0) = false := decide_eq_false (by omega)
  have d2 : ¬ (k : Int) < 0 := by omega
  go_enter Tryz.func66, Tryz.ntmps66
  go_wp2_with fail
  refine (hM _).mono ?_
  rintro e w1 ⟨rfl, rfl⟩
  go_wp2_with fail
  refine (hM _).mono ?_
  rintro e w1 ⟨rfl, rfl⟩
  go_wp2_with fail
  go_ret
  exact ⟨rfl, k0⟩
end Go.Proofs.YtgempjjnfpmndaaGreatDoor
namespace Go.Proofs.YtgempjjnfpmndaaGreatDoor
open Go.RowKit
set_option linter.unusedSimpArgs false
set_option linter.unusedVariables false
/-- A machine as it is made. -/
@[reducible] def resM (cs : List Cod) (ts : List ByteArray) (zs : List Int) (fs : List Stp) : Mch := ⟨cs, ts, zs, 0, [], [], 0, fs, [], [], false, 0⟩
@[reducible] def resH (g0 c0 g1 c1 g2 c2 g5 c5 : Nat) : MchH := ⟨some ⟨g0, 0, none⟩, c0, some ⟨g1, 0, none⟩, c1, some ⟨g2, 0, none⟩, c2, none, 0, none, 0, some ⟨g5, 0, none⟩, c5, none, 0, none, 0⟩
@[reducible] def resC (g0 c0 g1 c1 g2 c2 g5 c5 : Nat) (cs : List Cod) (ts : List ByteArray) (zs : List Int) (fs : List Stp) : Array Value := #[slB g0 cs.length c0, slB g1 ts.length c1, slB g2 zs.length c2, .int .i64 0, .slice none 0 0, .slice none 0 0, .int .i64 0, slB g5 fs.length c5, .slice none 0 0, .slice none 0 0, .bool false, .int .i64 0]
theorem resC_eq (g0 c0 g1 c1 g2 c2 g5 c5 : Nat) (cs : List Cod) (ts : List ByteArray) (zs : List Int) (fs : List Stp) : mchC (resH g0 c0 g1 c1 g2 c2 g5 c5) (resM cs ts zs fs) = resC g0 c0 g1 c1 g2 c2 g5 c5 cs ts zs fs := rfl
/-- Its rows lie in blocks of its own, each in another one. -/
structure MchX (W : World) (lo hi g0 g1 g2 g5 : Nat) (xs cp : Nat → Nat) (cs : List Cod) (ts : List ByteArray) (zs : List Int) (fs : List Stp) : Prop where
  i0 : lo ≤ g0 ∧ g0 < hi
  i1 : lo ≤ g1 ∧ g1 < hi
  i2 : lo ≤ g2 ∧ g2 < hi
  i5 : lo ≤ g5 ∧ g5 < hi
  ix : ∀ j, j < cs.length → lo ≤ xs j ∧ xs j < hi
  c : CodMx W g0 cs xs cp
  t : WrJ W g1 9 ts.length
  z : WrJ W g2 3 zs.length
  f : WrJ W g5 94 (fs.length * 3)
  n01 : g0 ≠ g1
  n02 : g0 ≠ g2
  n05 : g0 ≠ g5
  n12 : g1 ≠ g2
  n15 : g1 ≠ g5
  n25 : g2 ≠ g5
  x1 : ∀ j, j < cs.length → xs j ≠ g1
  x2 : ∀ j, j < cs.length → xs j ≠ g2
  x5 : ∀ j, j < cs.length → xs j ≠ g5
theorem MchX.tr {W W' : World} {a b lo hi g0 g1 g2 g5 : Nat} {xs cp : Nat → Nat} {cs : List Cod} {ts : List ByteArray} {zs : List Int} {fs : List Stp} (h : MchX W lo hi g0 g1 g2 g5 xs cp cs ts zs fs) (k : Tr a b W W') : MchX W' lo hi g0 g1 g2 g5 xs cp cs ts zs fs :=
  ⟨h.i0, h.i1, h.i2, h.i5, h.ix, h.c.tr k, h.t.tr k, h.z.tr k, h.f.tr k, h.n01, h.n02, h.n05, h.n12, h.n15, h.n25, h.x1, h.x2, h.x5⟩
@[reducible] def k1M (cs : List Cod) : Nat := cntC cs + 1
@[reducible] def k2M (cs : List Cod) (ts : List ByteArray) : Nat := cntC cs + 1 + ts.length
@[reducible] def k3M (cs : List Cod) (ts : List ByteArray) (zs : List Int) : Nat := cntC cs + 1 + ts.length + zs.length
@[reducible] def k4M (cs : List Cod) (ts : List ByteArray) (zs : List Int) (fs : List Stp) : Nat := cntC cs + 1 + ts.length + zs.length + fs.length * 3
/-- All its cells hold their marks. -/
structure MM (W : World) (g0 g1 g2 g5 : Nat) (xs cp : Nat → Nat) (cs : List Cod) (ts : List ByteArray) (zs : List Int) (fs : List Stp) : Prop where
  c : MCj W g0 1 cs xs cp cs.length
  t : MX (fS (k1M cs)) W g1 ts.length
  z : MX (fI (k2M cs ts)) W g2 zs.length
  f : MX (fI (k3M cs ts zs)) W g5 (fs.length * 3)
theorem MM.kept {W W' : World} {g0 g1 g2 g5 : Nat} {xs cp : Nat → Nat} {cs : List Cod} {ts : List ByteArray} {zs : List Int} {fs : List Stp} (h : MM W g0 g1 g2 g5 xs cp cs ts zs fs) (k : Kept W W') : MM W' g0 g1 g2 g5 xs cp cs ts zs fs := ⟨h.c.kept k, h.t.kept k, h.z.kept k, h.f.kept k⟩
/-- It is no greater than the laws ask. -/
structure ResLe (cs : List Cod) (ts : List ByteArray) (zs : List Int) (fs : List Stp) : Prop where
  c : cs.length ≤ 1048576
  s : sumC cs ≤ 1048576
  t : ts.length ≤ 1048576
  z : zs.length ≤ 1048576
  f : fs.length ≤ 1048576
set_option maxHeartbeats 8000000 in
set_option maxRecDepth 100000 in
theorem markMachine_x (w : World) (lo hi g0 c0 g1 c1 g2 c2 g5 c5 : Nat) (xs cp : Nat → Nat) (cs : List Cod) (ts : List ByteArray) (zs : List Int) (fs : List Stp) (hW : MchX w lo hi g0 g1 g2 g5 xs cp cs ts zs fs) (hL : ResLe cs ts zs fs) (hhi : hi ≤ w.heap.size) :
    Calls Tryz.prog 19 #[.agg (resC g0 c0 g1 c1 g2 c2 g5 c5 cs ts zs fs), .int .i64 1] w fun e w' => e = .returned (.int .i64 (k4M cs ts zs fs : Nat)) ∧ Tr lo hi w w' ∧ MM w' g0 g1 g2 g5 xs cp cs ts zs fs := by
  obtain ⟨W0, hW0⟩ : ∃ x, w.alloc (.cells (resC g0 c0 g1 c1 g2 c2 g5 c5 cs ts zs fs) 43) = x := ⟨_, rfl⟩
  have t0 : Tr lo hi w W0 := hW0 ▸ Tr.of (Kept.alloc (Below.refl _ _) _)
  have bx : Cells W0 w.heap.size 43 (resC g0 c0 g1 c1 g2 c2 g5 c5 cs ts zs fs) := hW0 ▸ Cells.new w _ _
  have X : Hid (∀ u, Tr lo hi W0 u → Cells u w.heap.size 43 (resC g0 c0 g1 c1 g2 c2 g5 c5 cs ts zs fs)) := fun u hu => Cells.tr bx hu hhi
  have HW : Hid (MchX W0 lo hi g0 g1 g2 g5 xs cp cs ts zs fs) := hW.tr t0
  have HS : Hid (hi ≤ W0.heap.size) := Nat.le_trans hhi t0.size
  have hcn : cntC cs ≤ 5300000 := by have := hL.c; have := hL.s; unfold cntC; omega
  have ht := hL.t
  have hz := hL.z
  have hf := hL.f
  have HT0 : Hid _ := t0
  have a0 : W0.cell? ⟨w.heap.size, 0, none⟩ = some (slB g0 cs.length c0) := bx.cell 0
  have a1 : W0.cell? ⟨w.heap.size, 1, none⟩ = some (slB g1 ts.length c1) := bx.cell 1
  have hM := markUnit_x W0 lo hi g0 g1 c0 c1 cs ts xs cp 1 hW.i0 hW.i1 hW.ix HS.out HW.out.c HW.out.t hW.n01 hW.x1 hL.c hL.s hL.t (by omega) (by omega)
  have eo : ((1 : Nat) : Int) = 1 := rfl
  rw [eo] at hM
  obtain ⟨k2, hk2⟩ : ∃ x, k2M cs ts = x := ⟨_, rfl⟩
  have HK2 : Hid (k2M cs ts = k2) := hk2
  have e2 : ((cntC cs + 1 + ts.length : Nat) : Int) = (k2 : Int) := by rw [← hk2]
  have b2 : k2 ≤ 6400000 := by rw [← hk2]; unfold k2M; omega
  rw [e2] at hM
  clear hW hL hhi t0 bx eo e2 hk2
  go_enter Tryz.func19, Tryz.ntmps19
  go_upto_region 1 with (fail)
  try simp only [hW0]
  clear hW0
  go_wp2_with fail
  refine hM.mono ?_
  rintro e w1 ⟨rfl, t1, mc, mt⟩
  clear hM a0 a1
  have a2 : w1.cell? ⟨w.heap.size, 2, none⟩ = some (slB g2 zs.length c2) := (X.out _ t1).cell 2
  have hM := markSlab_x w1 g2 zs.length c2 k2 (HW.out.tr t1).z hz (by omega)
  obtain ⟨k3, hk3⟩ : ∃ x : Nat, zs.length + k2 = x := ⟨_, rfl⟩
  have HK3 : Hid (zs.length + k2 = k3) := hk3
  have e3 : (zs.length : Int) + (k2 : Int) = (k3 : Int) := by omega
  rw [e3] at hM
  have b3 : k3 ≤ 7500000 := by omega
  have HMC : Hid _ := mc
  have HMT : Hid _ := mt
  clear e3 hk3 mc mt
  go_wp2_with fail
  refine hM.mono ?_
  rintro e w2 ⟨rfl, t2', mz⟩
  have t2 := t1.trans (tr_block t2' HW.out.i2.1 HW.out.i2.2)
  have HMC2 : Hid _ := MCj.tr HMC.out t2' (by have := HW.out.n02; omega) (fun i hi _ => by have := HW.out.x2 i hi; omega)
  have HMT2 : Hid _ := MX.tr HMT.out t2' (by have := HW.out.n12; omega)
  have HMZ : Hid _ := mz
  clear hM a2 t2' t1 mz HMC HMT
  have a3 : w2.cell? ⟨w.heap.size, 3, none⟩ = some (.int .i64 0) := (X.out _ t2).cell 3
  have a4 : w2.cell? ⟨w.heap.size, 4, none⟩ = some (.slice none 0 0) := (X.out _ t2).cell 4
  have a5 : w2.cell? ⟨w.heap.size, 5, none⟩ = some (.slice none 0 0) := (X.out _ t2).cell 5
  have a6 : w2.cell? ⟨w.heap.size, 6, none⟩ = some (.int .i64 0) := (X.out _ t2).cell 6
  have hM := markMarker0_ok w2 k3 0 0
  go_wp2_with fail
  refine hM.mono ?_
  rintro e w3 ⟨rfl, k3'⟩
  have t3 := t2.trans (Tr.of (lo := lo) (hi := hi) k3')
  have HMC3 : Hid _ := MCj.kept HMC2.out k3'
  have HMT3 : Hid _ := MX.kept HMT2.out k3'
  have HMZ3 : Hid _ := MX.kept HMZ.out k3'
  clear hM a3 a4 a5 a6 k3' t2 HMC2 HMT2 HMZ
  have a7 : w3.cell? ⟨w.heap.size, 7, none⟩ = some (slB g5 fs.length c5) := (X.out _ t3).cell 7
  have hM := markFrameS_x w3 g5 c5 fs.length k3 (HW.out.tr t3).f hf (by omega)
  obtain ⟨k4, hk4⟩ : ∃ x : Nat, fs.length * 3 + k3 = x := ⟨_, rfl⟩
  have HK4 : Hid (fs.length * 3 + k3 = k4) := hk4
  have e4 : ((fs.length * 3 : Nat) : Int) + (k3 : Int) = (k4 : Int) := by omega
  rw [e4] at hM
  clear e4 hk4
  go_wp2_with fail
  refine hM.mono ?_
  rintro e w4 ⟨rfl, t4', mf⟩
  have t4 := t3.trans (tr_block t4' HW.out.i5.1 HW.out.i5.2)
  have HMC4 : Hid _ := MCj.tr HMC3.out t4' (by have := HW.out.n05; omega) (fun i hi _ => by have := HW.out.x5 i hi; omega)
  have HMT4 : Hid _ := MX.tr HMT3.out t4' (by have := HW.out.n15; omega)
  have HMZ4 : Hid _ := MX.tr HMZ3.out t4' (by have := HW.out.n25; omega)
  have HMF : Hid _ := mf
  clear hM a7 t4' t3 mf HMC3 HMT3 HMZ3
  have a8 : w4.cell? ⟨w.heap.size, 8, none⟩ = some (.slice none 0 0) := (X.out _ t4).cell 8
  have a9 : w4.cell? ⟨w.heap.size, 9, none⟩ = some (.slice none 0 0) := (X.out _ t4).cell 9
  have hM := markInt0_ok w4 none 0 k4
  go_wp2_with fail
  refine hM.mono ?_
  rintro e w5 ⟨rfl, rfl⟩
  clear hM a8
  have hM := markString0_ok w4 none 0 k4
  go_wp2_with fail
  refine hM.mono ?_
  rintro e w6 ⟨rfl, rfl⟩
  clear hM a9
  go_wp2_with fail
  go_ret
  have q2 := HK2.out
  have q3 := HK3.out
  have q4 := HK4.out
  have q3' : k3M cs ts zs = k3 := by unfold k3M; unfold k2M at q2; omega
  have q4' : k4M cs ts zs fs = k4 := by unfold k4M; unfold k2M at q2; omega
  exact ⟨by rw [q4']; rfl, Tr.trans HT0.out t4, ⟨HMC4.out, HMT4.out, by rw [q2]; exact HMZ4.out, by rw [q3']; exact HMF.out⟩⟩
set_option maxHeartbeats 8000000 in
set_option maxRecDepth 100000 in
theorem heldMachine_x (w : World) (g0 c0 g1 c1 g2 c2 g5 c5 : Nat) (xs cp : Nat → Nat) (cs : List Cod) (ts : List ByteArray) (zs : List Int) (fs : List Stp) (hM : MM w g0 g1 g2 g5 xs cp cs ts zs fs) (hL : ResLe cs ts zs fs) :
    Calls Tryz.prog 20 #[.agg (resC g0 c0 g1 c1 g2 c2 g5 c5 cs ts zs fs), .int .i64 1] w fun e w' => e = .returned (.int .i64 (k4M cs ts zs fs : Nat)) ∧ Kept w w' := by
  obtain ⟨W0, hW0⟩ : ∃ x, w.alloc (.cells (resC g0 c0 g1 c1 g2 c2 g5 c5 cs ts zs fs) 43) = x := ⟨_, rfl⟩
  have k0 : Kept w W0 := hW0 ▸ Kept.alloc (Below.refl _ _) _
  have bx : Cells W0 w.heap.size 43 (resC g0 c0 g1 c1 g2 c2 g5 c5 cs ts zs fs) := hW0 ▸ Cells.new w _ _
  have X : Hid (∀ u, Kept W0 u → Cells u w.heap.size 43 (resC g0 c0 g1 c1 g2 c2 g5 c5 cs ts zs fs)) := fun u hu => bx.kept hu
  have HM0 : Hid (MM W0 g0 g1 g2 g5 xs cp cs ts zs fs) := hM.kept k0
  have hcn : cntC cs ≤ 5300000 := by have := hL.c; have := hL.s; unfold cntC; omega
  have ht := hL.t
  have hz := hL.z
  have hf := hL.f
  have HK0 : Hid _ := k0
  have a0 : W0.cell? ⟨w.heap.size, 0, none⟩ = some (slB g0 cs.length c0) := bx.cell 0
  have a1 : W0.cell? ⟨w.heap.size, 1, none⟩ = some (slB g1 ts.length c1) := bx.cell 1
  have hH := heldUnit_x W0 g0 g1 c0 c1 cs ts xs cp 1 HM0.out.c HM0.out.t hL.c hL.s hL.t (by omega) (by omega)
  have eo : ((1 : Nat) : Int) = 1 := rfl
  rw [eo] at hH
  obtain ⟨k2, hk2⟩ : ∃ x, k2M cs ts = x := ⟨_, rfl⟩
  have HK2 : Hid (k2M cs ts = k2) := hk2
  have e2 : ((cntC cs + 1 + ts.length : Nat) : Int) = (k2 : Int) := by rw [← hk2]
  have b2 : k2 ≤ 6400000 := by rw [← hk2]; unfold k2M; omega
  rw [e2] at hH
  have d2 : decide ((k2 : Int) < 0) = false := decide_eq_false (by omega)
  clear hM hL k0 bx eo e2 hk2
  go_enter Tryz.func20, Tryz.ntmps20
  go_upto_region 1 with (fail)
  try simp only [hW0]
  clear hW0
  go_wp2_with fail
  refine hH.mono ?_
  rintro e w1 ⟨rfl, k1⟩
  clear hH a0 a1
  have a2 : w1.cell? ⟨w.heap.size, 2, none⟩ = some (slB g2 zs.length c2) := (X.out _ k1).cell 2
  have hH := heldSlab_x w1 g2 zs.length c2 k2 (by have := (HM0.out.kept k1).z; rwa [HK2.out] at this) hz (by omega)
  obtain ⟨k3, hk3⟩ : ∃ x : Nat, zs.length + k2 = x := ⟨_, rfl⟩
  have HK3 : Hid (zs.length + k2 = k3) := hk3
  have e3 : (zs.length : Int) + (k2 : Int) = (k3 : Int) := by omega
  rw [e3] at hH
  have b3 : k3 ≤ 7500000 := by omega
  have d3 : decide ((k3 : Int) < 0) = false := decide_eq_false (by omega)
  clear e3 hk3
  go_wp2_with fail
  refine hH.mono ?_
  rintro e w2 ⟨rfl, k2'⟩
  have kk2 := k1.trans k2'
  clear hH a2 k2' k1
  have a3 : w2.cell? ⟨w.heap.size, 3, none⟩ = some (.int .i64 0) := (X.out _ kk2).cell 3
  have a4 : w2.cell? ⟨w.heap.size, 4, none⟩ = some (.slice none 0 0) := (X.out _ kk2).cell 4
  have a5 : w2.cell? ⟨w.heap.size, 5, none⟩ = some (.slice none 0 0) := (X.out _ kk2).cell 5
  have a6 : w2.cell? ⟨w.heap.size, 6, none⟩ = some (.int .i64 0) := (X.out _ kk2).cell 6
  have hH := heldMarker0_ok w2 k3 0 0
  go_wp2_with fail
  refine hH.mono ?_
  rintro e w3 ⟨rfl, k3'⟩
  have kk3 := kk2.trans k3'
  clear hH a3 a4 a5 a6 k3' kk2
  have a7 : w3.cell? ⟨w.heap.size, 7, none⟩ = some (slB g5 fs.length c5) := (X.out _ kk3).cell 7
  have hH := heldFrameS_x w3 g5 c5 fs.length k3 (by have := (HM0.out.kept kk3).f; rwa [show k3M cs ts zs = k3 by have q2 := HK2.out; have q3 := HK3.out; unfold k3M; unfold k2M at q2; omega] at this) hf (by omega)
  obtain ⟨k4, hk4⟩ : ∃ x : Nat, fs.length * 3 + k3 = x := ⟨_, rfl⟩
  have HK4 : Hid (fs.length * 3 + k3 = k4) := hk4
  have e4 : ((fs.length * 3 : Nat) : Int) + (k3 : Int) = (k4 : Int) := by omega
  rw [e4] at hH
  have d4 : decide ((k4 : Int) < 0) = false := decide_eq_false (by omega)
  clear e4 hk4
  go_wp2_with fail
  refine hH.mono ?_
  rintro e w4 ⟨rfl, rfl⟩
  clear hH a7
  have a8 : w3.cell? ⟨w.heap.size, 8, none⟩ = some (.slice none 0 0) := (X.out _ kk3).cell 8
  have a9 : w3.cell? ⟨w.heap.size, 9, none⟩ = some (.slice none 0 0) := (X.out _ kk3).cell 9
  have hH := heldInt0_ok w3 none 0 k4
  go_wp2_with fail
  refine hH.mono ?_
  rintro e w5 ⟨rfl, rfl⟩
  clear hH a8
  have hH := heldString0_ok w3 none 0 k4
  go_wp2_with fail
  refine hH.mono ?_
  rintro e w6 ⟨rfl, rfl⟩
  clear hH a9
  go_wp2_with fail
  go_ret
  have q2 := HK2.out
  have q3 := HK3.out
  have q4 := HK4.out
  have q4' : k4M cs ts zs fs = k4 := by unfold k4M; unfold k2M at q2; omega
  exact ⟨by rw [q4']; rfl, Kept.trans HK0.out kk3⟩
end Go.Proofs.YtgempjjnfpmndaaGreatDoor
namespace Go.Proofs.YtgempjjnfpmndaaGreatDoor
open Go.RowKit
set_option linter.unusedSimpArgs false
set_option linter.unusedVariables false
set_option maxHeartbeats 8000000 in
set_option maxRecDepth 100000 in
theorem markCodeS0_ok (w : World) (ao : Option Addr) (cap k : Nat) :
    Calls Tryz.prog 58 #[.slice ao 0 cap, .int .i64 (k : Int)] w fun e w' => e = .returned (.int .i64 (k : Int)) ∧ w = w' := by
  go_enter Tryz.func58, Tryz.ntmps58
  go_wp2_with fail
  go_loopw [1, 5] (fun m i wr => i = .int .i64 0 ∧ m = .int .i64 (k : Int) ∧ w = wr) (fun _ _ _ => 0)
  case atStart => exact ⟨rfl, rfl, rfl⟩
  case round =>
    obtain ⟨rfl, rfl, rfl⟩ := hrel
    go_wp2
    go_ret
    exact ⟨rfl, rfl⟩
set_option maxHeartbeats 8000000 in
set_option maxRecDepth 100000 in
theorem heldCodeS0_ok (w : World) (ao : Option Addr) (cap k : Nat) :
    Calls Tryz.prog 114 #[.slice ao 0 cap, .int .i64 (k : Int)] w fun e w' => e = .returned (.int .i64 (k : Int)) ∧ w = w' := by
  go_enter Tryz.func114, Tryz.ntmps114
  go_wp2_with fail
  go_loopw [1, 5] (fun m i wr => i = .int .i64 0 ∧ m = .int .i64 (k : Int) ∧ w = wr) (fun _ _ _ => 0)
  case atStart => exact ⟨rfl, rfl, rfl⟩
  case round =>
    obtain ⟨rfl, rfl, rfl⟩ := hrel
    go_wp2
    go_ret
    exact ⟨rfl, rfl⟩
set_option maxHeartbeats 8000000 in
set_option maxRecDepth 100000 in
theorem markFrameS0_ok (w : World) (ao : Option Addr) (cap k : Nat) :
    Calls Tryz.prog 62 #[.slice ao 0 cap, .int .i64 (k : Int)] w fun e w' => e = .returned (.int .i64 (k : Int)) ∧ w = w' := by
  go_enter Tryz.func62, Tryz.ntmps62
  go_wp2_with fail
  go_loopw [1, 5] (fun m i wr => i = .int .i64 0 ∧ m = .int .i64 (k : Int) ∧ w = wr) (fun _ _ _ => 0)
  case atStart => exact ⟨rfl, rfl, rfl⟩
  case round =>
    obtain ⟨rfl, rfl, rfl⟩ := hrel
    go_wp2
    go_ret
    exact ⟨rfl, rfl⟩
set_option maxHeartbeats 8000000 in
set_option maxRecDepth 100000 in
theorem heldFrameS0_ok (w : World) (ao : Option Addr) (cap k : Nat) :
    Calls Tryz.prog 67 #[.slice ao 0 cap, .int .i64 (k : Int)] w fun e w' => e = .returned (.int .i64 (k : Int)) ∧ w = w' := by
  go_enter Tryz.func67, Tryz.ntmps67
  go_wp2_with fail
  go_loopw [1, 5] (fun m i wr => i = .int .i64 0 ∧ m = .int .i64 (k : Int) ∧ w = wr) (fun _ _ _ => 0)
  case atStart => exact ⟨rfl, rfl, rfl⟩
  case round =>
    obtain ⟨rfl, rfl, rfl⟩ := hrel
    go_wp2
    go_ret
    exact ⟨rfl, rfl⟩
set_option maxHeartbeats 8000000 in
set_option maxRecDepth 100000 in
theorem markUnit0_ok (w : World) (k : Nat) :
    Calls Tryz.prog 18 #[.agg #[.slice none 0 0, .slice none 0 0], .int .i64 (k : Int)] w fun e w' => e = .returned (.int .i64 (k : Int)) ∧ Kept w w' := by
  have k0 : Kept w (w.alloc (.cells #[.slice none 0 0, .slice none 0 0] 38)) := Kept.alloc (Below.refl _ _) _
  have d1 : decide ((k : Int) < 0) = false := decide_eq_false (by omega)
  have d2 : ¬ (k : Int) < 0 := by omega
  go_enter Tryz.func18, Tryz.ntmps18
  go_wp2_with fail
  refine (markCodeS0_ok _ none 0 k).mono ?_
  rintro e w1 ⟨rfl, rfl⟩
  go_wp2_with fail
  refine (markString0_ok _ none 0 k).mono ?_
  rintro e w1 ⟨rfl, rfl⟩
  go_wp2_with fail
  go_ret
  exact ⟨rfl, k0⟩
set_option maxHeartbeats 8000000 in
set_option maxRecDepth 100000 in
theorem heldUnit0_ok (w : World) (k : Nat) :
    Calls Tryz.prog 64 #[.agg #[.slice none 0 0, .slice none 0 0], .int .i64 (k : Int)] w fun e w' => e = .returned (.int .i64 (k : Int)) ∧ Kept w w' := by
  have k0 : Kept w (w.alloc (.cells #[.slice none 0 0, .slice none 0 0] 38)) := Kept.alloc (Below.refl _ _) _
  have d1 : decide ((k : Int) < 0) = false := decide_eq_false (by omega)
  have d2 : ¬ (k : Int) < 0 := by omega
  go_enter Tryz.func64, Tryz.ntmps64
  go_wp2_with fail
  refine (heldCodeS0_ok _ none 0 k).mono ?_
  rintro e w1 ⟨rfl, rfl⟩
  go_wp2_with fail
  refine (heldString0_ok _ none 0 k).mono ?_
  rintro e w1 ⟨rfl, rfl⟩
  go_wp2_with fail
  go_ret
  exact ⟨rfl, k0⟩
set_option maxHeartbeats 8000000 in
set_option maxRecDepth 100000 in
theorem markSlab0_ok (w : World) (k : Nat) :
    Calls Tryz.prog 60 #[.agg #[.slice none 0 0], .int .i64 (k : Int)] w fun e w' => e = .returned (.int .i64 (k : Int)) ∧ Kept w w' := by
  have k0 : Kept w (w.alloc (.cells #[.slice none 0 0] 39)) := Kept.alloc (Below.refl _ _) _
  have d1 : decide ((k : Int) < 0) = false := decide_eq_false (by omega)
  have d2 : ¬ (k : Int) < 0 := by omega
  go_enter Tryz.func60, Tryz.ntmps60
  go_wp2_with fail
  refine (markInt0_ok _ none 0 k).mono ?_
  rintro e w1 ⟨rfl, rfl⟩
  go_wp2_with fail
  go_ret
  exact ⟨rfl, k0⟩
set_option maxHeartbeats 8000000 in
set_option maxRecDepth 100000 in
theorem heldSlab0_ok (w : World) (k : Nat) :
    Calls Tryz.prog 65 #[.agg #[.slice none 0 0], .int .i64 (k : Int)] w fun e w' => e = .returned (.int .i64 (k : Int)) ∧ Kept w w' := by
  have k0 : Kept w (w.alloc (.cells #[.slice none 0 0] 39)) := Kept.alloc (Below.refl _ _) _
  have d1 : decide ((k : Int) < 0) = false := decide_eq_false (by omega)
  have d2 : ¬ (k : Int) < 0 := by omega
  go_enter Tryz.func65, Tryz.ntmps65
  go_wp2_with fail
  refine (heldInt0_ok _ none 0 k).mono ?_
  rintro e w1 ⟨rfl, rfl⟩
  go_wp2_with fail
  go_ret
  exact ⟨rfl, k0⟩
@[reducible] def zeroC : Array Value := #[.slice none 0 0, .slice none 0 0, .slice none 0 0, .int .i64 0, .slice none 0 0, .slice none 0 0, .int .i64 0, .slice none 0 0, .slice none 0 0, .slice none 0 0, .bool false, .int .i64 0]
set_option maxHeartbeats 8000000 in
set_option maxRecDepth 100000 in
theorem markMachine0_ok (w : World) :
    Calls Tryz.prog 19 #[.agg zeroC, .int .i64 1] w fun e w' => e = .returned (.int .i64 1) ∧ Kept w w' := by
  obtain ⟨W0, hW0⟩ : ∃ x, w.alloc (.cells zeroC 43) = x := ⟨_, rfl⟩
  have k0 : Kept w W0 := hW0 ▸ Kept.alloc (Below.refl _ _) _
  have bx : Cells W0 w.heap.size 43 zeroC := hW0 ▸ Cells.new w _ _
  have X : Hid (∀ u, Kept W0 u → Cells u w.heap.size 43 zeroC) := fun u hu => bx.kept hu
  have HK0 : Hid _ := k0
  have hU : ∀ u, Calls Tryz.prog 18 #[.agg #[.slice none 0 0, .slice none 0 0], .int .i64 1] u fun e w' => e = .returned (.int .i64 1) ∧ Kept u w' := fun u => markUnit0_ok u 1
  have hS : ∀ u, Calls Tryz.prog 60 #[.agg #[.slice none 0 0], .int .i64 1] u fun e w' => e = .returned (.int .i64 1) ∧ Kept u w' := fun u => markSlab0_ok u 1
  have hM : ∀ u, Calls Tryz.prog 61 #[.agg #[.int .i64 0, .slice none 0 0, .slice none 0 0, .int .i64 0], .int .i64 1] u fun e w' => e = .returned (.int .i64 1) ∧ Kept u w' := fun u => markMarker0_ok u 1 0 0
  have hF : ∀ u, Calls Tryz.prog 62 #[.slice none 0 0, .int .i64 1] u fun e w' => e = .returned (.int .i64 1) ∧ u = w' := fun u => markFrameS0_ok u none 0 1
  have hI : ∀ u, Calls Tryz.prog 63 #[.slice none 0 0, .int .i64 1] u fun e w' => e = .returned (.int .i64 1) ∧ u = w' := fun u => markInt0_ok u none 0 1
  have hL : ∀ u, Calls Tryz.prog 59 #[.slice none 0 0, .int .i64 1] u fun e w' => e = .returned (.int .i64 1) ∧ u = w' := fun u => markString0_ok u none 0 1
  have a0 := bx.cell 0
  have a1 := bx.cell 1
  have a2 := bx.cell 2
  have a3 := bx.cell 3
  have a4 := bx.cell 4
  have a5 := bx.cell 5
  have a6 := bx.cell 6
  have a7 := bx.cell 7
  have a8 := bx.cell 8
  have a9 := bx.cell 9
  have a10 := bx.cell 10
  have a11 := bx.cell 11
  clear bx k0
  go_enter Tryz.func19, Tryz.ntmps19
  go_upto_region 1 with (fail)
  try simp only [hW0]
  clear hW0
  go_wp2_with fail
  refine (hU _).mono ?_
  rintro e w1 ⟨rfl, q1'⟩
  have q1 := q1'
  clear a0 a1 a2 a3 a4 a5 a6 a7 a8 a9 a10 a11
  have a0 := (X.out _ q1).cell 0
  have a1 := (X.out _ q1).cell 1
  have a2 := (X.out _ q1).cell 2
  have a3 := (X.out _ q1).cell 3
  have a4 := (X.out _ q1).cell 4
  have a5 := (X.out _ q1).cell 5
  have a6 := (X.out _ q1).cell 6
  have a7 := (X.out _ q1).cell 7
  have a8 := (X.out _ q1).cell 8
  have a9 := (X.out _ q1).cell 9
  have a10 := (X.out _ q1).cell 10
  have a11 := (X.out _ q1).cell 11
  go_wp2_with fail
  refine (hS _).mono ?_
  rintro e w2 ⟨rfl, q2'⟩
  have q2 := q1.trans q2'
  clear a0 a1 a2 a3 a4 a5 a6 a7 a8 a9 a10 a11
  have a0 := (X.out _ q2).cell 0
  have a1 := (X.out _ q2).cell 1
  have a2 := (X.out _ q2).cell 2
  have a3 := (X.out _ q2).cell 3
  have a4 := (X.out _ q2).cell 4
  have a5 := (X.out _ q2).cell 5
  have a6 := (X.out _ q2).cell 6
  have a7 := (X.out _ q2).cell 7
  have a8 := (X.out _ q2).cell 8
  have a9 := (X.out _ q2).cell 9
  have a10 := (X.out _ q2).cell 10
  have a11 := (X.out _ q2).cell 11
  go_wp2_with fail
  refine (hM _).mono ?_
  rintro e w3 ⟨rfl, q3'⟩
  have q3 := q2.trans q3'
  clear a0 a1 a2 a3 a4 a5 a6 a7 a8 a9 a10 a11
  have a0 := (X.out _ q3).cell 0
  have a1 := (X.out _ q3).cell 1
  have a2 := (X.out _ q3).cell 2
  have a3 := (X.out _ q3).cell 3
  have a4 := (X.out _ q3).cell 4
  have a5 := (X.out _ q3).cell 5
  have a6 := (X.out _ q3).cell 6
  have a7 := (X.out _ q3).cell 7
  have a8 := (X.out _ q3).cell 8
  have a9 := (X.out _ q3).cell 9
  have a10 := (X.out _ q3).cell 10
  have a11 := (X.out _ q3).cell 11
  go_wp2_with fail
  refine (hF _).mono ?_
  rintro e wz ⟨rfl, rfl⟩
  go_wp2_with fail
  refine (hI _).mono ?_
  rintro e wz ⟨rfl, rfl⟩
  go_wp2_with fail
  refine (hL _).mono ?_
  rintro e wz ⟨rfl, rfl⟩
  go_wp2_with fail
  go_ret
  exact ⟨rfl, Kept.trans HK0.out q3⟩
set_option maxHeartbeats 8000000 in
set_option maxRecDepth 100000 in
theorem heldMachine0_ok (w : World) :
    Calls Tryz.prog 20 #[.agg zeroC, .int .i64 1] w fun e w' => e = .returned (.int .i64 1) ∧ Kept w w' := by
  obtain ⟨W0, hW0⟩ : ∃ x, w.alloc (.cells zeroC 43) = x := ⟨_, rfl⟩
  have k0 : Kept w W0 := hW0 ▸ Kept.alloc (Below.refl _ _) _
  have bx : Cells W0 w.heap.size 43 zeroC := hW0 ▸ Cells.new w _ _
  have X : Hid (∀ u, Kept W0 u → Cells u w.heap.size 43 zeroC) := fun u hu => bx.kept hu
  have HK0 : Hid _ := k0
  have hU : ∀ u, Calls Tryz.prog 64 #[.agg #[.slice none 0 0, .slice none 0 0], .int .i64 1] u fun e w' => e = .returned (.int .i64 1) ∧ Kept u w' := fun u => heldUnit0_ok u 1
  have hS : ∀ u, Calls Tryz.prog 65 #[.agg #[.slice none 0 0], .int .i64 1] u fun e w' => e = .returned (.int .i64 1) ∧ Kept u w' := fun u => heldSlab0_ok u 1
  have hM : ∀ u, Calls Tryz.prog 66 #[.agg #[.int .i64 0, .slice none 0 0, .slice none 0 0, .int .i64 0], .int .i64 1] u fun e w' => e = .returned (.int .i64 1) ∧ Kept u w' := fun u => heldMarker0_ok u 1 0 0
  have hF : ∀ u, Calls Tryz.prog 67 #[.slice none 0 0, .int .i64 1] u fun e w' => e = .returned (.int .i64 1) ∧ u = w' := fun u => heldFrameS0_ok u none 0 1
  have hI : ∀ u, Calls Tryz.prog 68 #[.slice none 0 0, .int .i64 1] u fun e w' => e = .returned (.int .i64 1) ∧ u = w' := fun u => heldInt0_ok u none 0 1
  have hL : ∀ u, Calls Tryz.prog 69 #[.slice none 0 0, .int .i64 1] u fun e w' => e = .returned (.int .i64 1) ∧ u = w' := fun u => heldString0_ok u none 0 1
  have a0 := bx.cell 0
  have a1 := bx.cell 1
  have a2 := bx.cell 2
  have a3 := bx.cell 3
  have a4 := bx.cell 4
  have a5 := bx.cell 5
  have a6 := bx.cell 6
  have a7 := bx.cell 7
  have a8 := bx.cell 8
  have a9 := bx.cell 9
  have a10 := bx.cell 10
  have a11 := bx.cell 11
  clear bx k0
  go_enter Tryz.func20, Tryz.ntmps20
  go_upto_region 1 with (fail)
  try simp only [hW0]
  clear hW0
  go_wp2_with fail
  refine (hU _).mono ?_
  rintro e w1 ⟨rfl, q1'⟩
  have q1 := q1'
  clear a0 a1 a2 a3 a4 a5 a6 a7 a8 a9 a10 a11
  have a0 := (X.out _ q1).cell 0
  have a1 := (X.out _ q1).cell 1
  have a2 := (X.out _ q1).cell 2
  have a3 := (X.out _ q1).cell 3
  have a4 := (X.out _ q1).cell 4
  have a5 := (X.out _ q1).cell 5
  have a6 := (X.out _ q1).cell 6
  have a7 := (X.out _ q1).cell 7
  have a8 := (X.out _ q1).cell 8
  have a9 := (X.out _ q1).cell 9
  have a10 := (X.out _ q1).cell 10
  have a11 := (X.out _ q1).cell 11
  go_wp2_with fail
  refine (hS _).mono ?_
  rintro e w2 ⟨rfl, q2'⟩
  have q2 := q1.trans q2'
  clear a0 a1 a2 a3 a4 a5 a6 a7 a8 a9 a10 a11
  have a0 := (X.out _ q2).cell 0
  have a1 := (X.out _ q2).cell 1
  have a2 := (X.out _ q2).cell 2
  have a3 := (X.out _ q2).cell 3
  have a4 := (X.out _ q2).cell 4
  have a5 := (X.out _ q2).cell 5
  have a6 := (X.out _ q2).cell 6
  have a7 := (X.out _ q2).cell 7
  have a8 := (X.out _ q2).cell 8
  have a9 := (X.out _ q2).cell 9
  have a10 := (X.out _ q2).cell 10
  have a11 := (X.out _ q2).cell 11
  go_wp2_with fail
  refine (hM _).mono ?_
  rintro e w3 ⟨rfl, q3'⟩
  have q3 := q2.trans q3'
  clear a0 a1 a2 a3 a4 a5 a6 a7 a8 a9 a10 a11
  have a0 := (X.out _ q3).cell 0
  have a1 := (X.out _ q3).cell 1
  have a2 := (X.out _ q3).cell 2
  have a3 := (X.out _ q3).cell 3
  have a4 := (X.out _ q3).cell 4
  have a5 := (X.out _ q3).cell 5
  have a6 := (X.out _ q3).cell 6
  have a7 := (X.out _ q3).cell 7
  have a8 := (X.out _ q3).cell 8
  have a9 := (X.out _ q3).cell 9
  have a10 := (X.out _ q3).cell 10
  have a11 := (X.out _ q3).cell 11
  go_wp2_with fail
  refine (hF _).mono ?_
  rintro e wz ⟨rfl, rfl⟩
  go_wp2_with fail
  refine (hI _).mono ?_
  rintro e wz ⟨rfl, rfl⟩
  go_wp2_with fail
  refine (hL _).mono ?_
  rintro e wz ⟨rfl, rfl⟩
  go_wp2_with fail
  go_ret
  exact ⟨rfl, Kept.trans HK0.out q3⟩
end Go.Proofs.YtgempjjnfpmndaaGreatDoor
